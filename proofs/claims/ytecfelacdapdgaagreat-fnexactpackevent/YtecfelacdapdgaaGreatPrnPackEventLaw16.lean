import Derived.Test.YtecfelacdapdgaaGreatPrnPackEventLaw15
import Derived.Test.YtecfelacdapdgaaGreatPrnPackEventLaw14
import Derived.Test.YtecfelacdapdgaaGreatPrnPackEventLaw13
import Derived.RegionTactic
import Derived.ChangeAlike
import Derived.BigRegion
import Derived.BigQuiet
import Derived.Deep.QuietTactic
import Derived.Test.YtecfelacdapdgaaGreatPrnPackEventLaw7
import Derived.Test.YtecfelacdapdgaaGreatPrnPackEventLaw3
import Derived.Test.YtecfelacdapdgaaGreatPrnPackEventLaw9
import Derived.WideKeyEntry
import Derived.Test.YtecfelacdapdgaaGreatPrnPackEventLaw6
import Derived.Deep.RegionHeld3
import Derived.Shelf.Abstract
import Derived.Test.YtecfelacdapdgaaGreatPrnPackEventLaw10
import Derived.Test.YtecfelacdapdgaaGreatPrnPackEventLaw11
import Derived.Test.YtecfelacdapdgaaGreatPrnPackEventLaw5
import Derived.Test.YtecfelacdapdgaaGreatPrnPackEventLaw4
import Derived.Test.YtecfelacdapdgaaGreatPrnPackEventLaw2
import Derived.Deep.Slices
import Derived.Lib.SmallJoins

/-
  What is asked of marks, the program's.
-/
set_option linter.unusedSimpArgs false
set_option linter.unusedVariables false
namespace Go.Proofs.YtecfelacdapdgaaGreat
open Go.RowKit
set_option linter.unusedSectionVars false
variable [DecidableEq Rw] [Inhabited Rw] [DecidableEq Bal] [Inhabited Bal] [DecidableEq Ledg] [Inhabited Ledg] [DecidableEq Leg] [Inhabited Leg] [DecidableEq Cont] [Inhabited Cont] [DecidableEq LedgR] [Inhabited LedgR] [DecidableEq OutcR] [Inhabited OutcR] [DecidableEq Mrk] [Inhabited Mrk] [DecidableEq Shd] [Inhabited Shd] [DecidableEq ShdR] [Inhabited ShdR]
attribute [local go_sem ↓] Go.wp_at_zero Go.wp_at_succ

theorem isOutcomeH_any (n : Int) (w : World) : Calls Tryz.prog 97 #[.int .i64 n] w fun e w' => e = .returned (.bool (inB n 1 2)) ∧ w' = w := by
  go_enter Tryz.func97, Tryz.ntmps97
  go_wp2_with (go_at_call 116; refine (within_any _ _ _ _).mono ?_; rintro e w' ⟨rfl, rfl⟩)
  go_ret
  exact ⟨rfl, rfl⟩
end Go.Proofs.YtecfelacdapdgaaGreat

/-
  EventFault, the program's.
-/
set_option linter.unusedSimpArgs false
set_option linter.unusedVariables false
namespace Go.Proofs.YtecfelacdapdgaaGreat
open Go.RowKit
set_option linter.unusedSectionVars false
variable [DecidableEq Leg] [Inhabited Leg] [DecidableEq Cont] [Inhabited Cont] [DecidableEq Evt] [Inhabited Evt] [DecidableEq EvtR] [Inhabited EvtR] [DecidableEq BytesR] [Inhabited BytesR] [DecidableEq ContR] [Inhabited ContR] [DecidableEq Logg] [Inhabited Logg] [DecidableEq LoggR] [Inhabited LoggR] [DecidableEq RecsR] [Inhabited RecsR] [DecidableEq Rw] [Inhabited Rw] [DecidableEq Bal] [Inhabited Bal] [DecidableEq Ledg] [Inhabited Ledg] [DecidableEq LedgR] [Inhabited LedgR] [DecidableEq OutcR] [Inhabited OutcR] [DecidableEq Mrk] [Inhabited Mrk] [DecidableEq Shd] [Inhabited Shd] [DecidableEq ShdR] [Inhabited ShdR]
attribute [local go_sem ↓] Go.wp_at_zero Go.wp_at_succ

theorem store_fn14 {P : Program} {w : World} {a : Addr} {m : Mode} (fn : Fn) (first captured : Array Value) : (store a (.func fn first captured) m).run P w = stored P w a (.func fn first captured) m := run_store P w a _ m rfl
attribute [local go_sem] store_fn14
theorem kindField0 (f g h : Nat) (w : World) : (Instr.field 82 (.agg #[.func (.func f) #[] #[], .func (.func g) #[] #[], .func (.func h) #[] #[]]) 0).run Tryz.prog w = .ok (.func (.func f) #[] #[]) w := by kernel_rfl
theorem kindField1 (f g h : Nat) (w : World) : (Instr.field 82 (.agg #[.func (.func f) #[] #[], .func (.func g) #[] #[], .func (.func h) #[] #[]]) 1).run Tryz.prog w = .ok (.func (.func g) #[] #[]) w := by kernel_rfl
set_option maxHeartbeats 2000000 in
theorem kindOf_vote (x : Value) (d : Evt) (w : World) (hx : evtR.V w x d) (hv : d.vote = true) :
    Calls Tryz.prog 40 #[x] w fun e w' => e = .returned (.agg #[.func (.func 66) #[] #[], .func (.func 67) #[] #[], .func (.func 68) #[] #[]]) ∧ Below w.heap.size w w' := by
  obtain ⟨a, c, rfl, hl⟩ := evt_open hx
  rw [hv]
  clear hx hl hv
  go_enter Tryz.func40, Tryz.ntmps40
  go_wp2
  exact bodyPost_ret (v := .agg #[.func (.func 66) #[] #[], .func (.func 67) #[] #[], .func (.func 68) #[] #[]]) (by simp [results, Tryz.results40, go_sem]) rfl ⟨rfl, by (repeat (first | exact Below.refl _ _ | assumption | refine Below.drew ?_ | refine balloc ?_ _ | refine bset ?_ (by simp; omega) _ | refine bset ?_ (by simp) _ | refine bstep ?_ (by assumption)))⟩
set_option maxHeartbeats 2000000 in
theorem kindOf_out (x : Value) (d : Evt) (w : World) (hx : evtR.V w x d) (hv : d.vote = false) :
    Calls Tryz.prog 40 #[x] w fun e w' => e = .returned (.agg #[.func (.func 69) #[] #[], .func (.func 70) #[] #[], .func (.func 71) #[] #[]]) ∧ Below w.heap.size w w' := by
  obtain ⟨a, c, rfl, hl⟩ := evt_open hx
  rw [hv]
  clear hx hl hv
  go_enter Tryz.func40, Tryz.ntmps40
  go_wp2
  exact bodyPost_ret (v := .agg #[.func (.func 69) #[] #[], .func (.func 70) #[] #[], .func (.func 71) #[] #[]]) (by simp [results, Tryz.results40, go_sem]) rfl ⟨rfl, by (repeat (first | exact Below.refl _ _ | assumption | refine Below.drew ?_ | refine balloc ?_ _ | refine bset ?_ (by simp; omega) _ | refine bset ?_ (by simp) _ | refine bstep ?_ (by assumption)))⟩
set_option maxHeartbeats 2000000 in
theorem voteFault_any (x : Value) (d : Evt) (w : World) (hx : evtR.V w x d) (hv : d.vote = true) :
    Calls Tryz.prog 66 #[x] w fun e w' => e = .returned (.int .i64 (evtF d)) ∧ Below w.heap.size w w' := by
  obtain ⟨a, c, rfl, hl⟩ := evt_open hx
  obtain ⟨b, ⟨id, ls⟩, o⟩ := d
  dsimp only at hl hv ⊢
  subst hv
  clear hx
  have HD : Hid (evtF ⟨true, ⟨id, ls⟩, o⟩ = if contractFault id ls = 0 then (if o = 0 then 0 else 1) else contractFault id ls) := rfl
  have HC : Hid (∀ W, Below w.heap.size w W → Calls Tryz.prog 91 #[.agg #[.int .i64 id, .slice a ls.length c]] W fun e w' => e = .returned (.int .i64 (contractFault id ls)) ∧ Below W.heap.size W w') := fun W hW => implFault_any id _ ls W (LegsV_below hl hW)
  generalize evtF ⟨true, ⟨id, ls⟩, o⟩ = R at *
  clear hl
  generalize contractFault id ls = cf at *
  generalize ls.length = n at *
  go_enter Tryz.func66, Tryz.ntmps66
  go_wp2_with fail
  refine (HC.out _ (by (repeat (first | exact Below.refl _ _ | assumption | refine Below.drew ?_ | refine balloc ?_ _ | refine bset ?_ (by simp; omega) _ | refine bset ?_ (by simp) _ | refine bstep ?_ (by assumption))))).mono ?_
  rintro e w1 ⟨rfl, hb1⟩
  have hB1 : Below w.heap.size w w1 := by (repeat (first | exact Below.refl _ _ | assumption | refine Below.drew ?_ | refine balloc ?_ _ | refine bset ?_ (by simp; omega) _ | refine bset ?_ (by simp) _ | refine bstep ?_ (by assumption)))
  have y3 : w1.cell? ⟨w.heap.size, 3, none⟩ = some (.int .i64 o) := cell_keep hb1 (by simp [go_sem])
  clear hb1 HC
  by_cases hc : cf = 0
  · rw [hc] at HD ⊢
    by_cases ho : o = 0
    · have HE : Hid (R = 0) := by show _ = _; rw [HD.out, ho]; rfl
      have ho' : (o != 0) = false := by simp [ho]
      clear HD ho hc
      go_wp2
      go_ret
      exact ⟨by rw [HE.out]; rfl, by (repeat (first | exact Below.refl _ _ | assumption | refine Below.drew ?_ | refine balloc ?_ _ | refine bset ?_ (by simp; omega) _ | refine bset ?_ (by simp) _ | refine bstep ?_ (by assumption)))⟩
    · have HE : Hid (R = 1) := by show _ = _; rw [HD.out, if_neg ho]; rfl
      have ho' : (o != 0) = true := by simp [ho]
      clear HD ho hc
      go_wp2
      go_ret
      exact ⟨by rw [HE.out]; rfl, by (repeat (first | exact Below.refl _ _ | assumption | refine Below.drew ?_ | refine balloc ?_ _ | refine bset ?_ (by simp; omega) _ | refine bset ?_ (by simp) _ | refine bstep ?_ (by assumption)))⟩
  · have HE : Hid (R = cf) := by show _ = _; rw [HD.out, if_neg hc]
    have hc' : (cf != 0) = true := by simp [hc]
    clear HD hc
    go_wp2
    go_ret
    exact ⟨by rw [HE.out]; rfl, by (repeat (first | exact Below.refl _ _ | assumption | refine Below.drew ?_ | refine balloc ?_ _ | refine bset ?_ (by simp; omega) _ | refine bset ?_ (by simp) _ | refine bstep ?_ (by assumption)))⟩
set_option maxHeartbeats 2000000 in
theorem outcomeFault_any (x : Value) (d : Evt) (w : World) (hx : evtR.V w x d) (hv : d.vote = false) :
    Calls Tryz.prog 69 #[x] w fun e w' => e = .returned (.int .i64 (evtF d)) ∧ Below w.heap.size w w' := by
  obtain ⟨a, c, rfl, hl⟩ := evt_open hx
  obtain ⟨b, ⟨id, ls⟩, o⟩ := d
  dsimp only at hl hv ⊢
  subst hv
  clear hx
  have HD : Hid (evtF ⟨false, ⟨id, ls⟩, o⟩ = if (inB id 1 1000000000 && inB o 1 2) = true then (if ls.length = 0 then 0 else 1) else 3) := rfl
  generalize evtF ⟨false, ⟨id, ls⟩, o⟩ = R at *
  generalize ls.length = n at *
  clear hl
  cases hk : inB id 1 1000000000
  · rw [hk] at HD
    go_enter Tryz.func69, Tryz.ntmps69
    go_wp2_with (first | (go_at_call 96; refine (isId_any _ _).mono ?_; rintro e w' ⟨rfl, hw⟩; obtain rfl := hw.symm; rw [hk]))
    go_ret
    exact ⟨by rw [HD.out]; rfl, by (repeat (first | exact Below.refl _ _ | assumption | refine Below.drew ?_ | refine balloc ?_ _ | refine bset ?_ (by simp; omega) _ | refine bset ?_ (by simp) _ | refine bstep ?_ (by assumption)))⟩
  · cases ho : inB o 1 2
    · rw [hk, ho] at HD
      go_enter Tryz.func69, Tryz.ntmps69
      go_wp2_with (first | (go_at_call 96; refine (isId_any _ _).mono ?_; rintro e w' ⟨rfl, hw⟩; obtain rfl := hw.symm; rw [hk]) | (go_at_call 97; refine (isOutcomeH_any _ _).mono ?_; rintro e w' ⟨rfl, hw⟩; obtain rfl := hw.symm; rw [ho]))
      go_ret
      exact ⟨by rw [HD.out]; rfl, by (repeat (first | exact Below.refl _ _ | assumption | refine Below.drew ?_ | refine balloc ?_ _ | refine bset ?_ (by simp; omega) _ | refine bset ?_ (by simp) _ | refine bstep ?_ (by assumption)))⟩
    · rw [hk, ho] at HD
      by_cases hn : n = 0
      · have HE : Hid (R = 0) := by show _ = _; rw [HD.out, hn]; rfl
        have hn' : ¬ (0 : Int) < (n : Int) := by omega
        clear HD hn
        go_enter Tryz.func69, Tryz.ntmps69
        go_wp2_with (first | (go_at_call 96; refine (isId_any _ _).mono ?_; rintro e w' ⟨rfl, hw⟩; obtain rfl := hw.symm; rw [hk]) | (go_at_call 97; refine (isOutcomeH_any _ _).mono ?_; rintro e w' ⟨rfl, hw⟩; obtain rfl := hw.symm; rw [ho]))
        go_ret
        exact ⟨by rw [HE.out]; rfl, by (repeat (first | exact Below.refl _ _ | assumption | refine Below.drew ?_ | refine balloc ?_ _ | refine bset ?_ (by simp; omega) _ | refine bset ?_ (by simp) _ | refine bstep ?_ (by assumption)))⟩
      · have HE : Hid (R = 1) := by show _ = _; rw [HD.out, if_neg hn]; rfl
        have hn' : (0 : Int) < (n : Int) := by omega
        clear HD hn
        go_enter Tryz.func69, Tryz.ntmps69
        go_wp2_with (first | (go_at_call 96; refine (isId_any _ _).mono ?_; rintro e w' ⟨rfl, hw⟩; obtain rfl := hw.symm; rw [hk]) | (go_at_call 97; refine (isOutcomeH_any _ _).mono ?_; rintro e w' ⟨rfl, hw⟩; obtain rfl := hw.symm; rw [ho]))
        go_ret
        exact ⟨by rw [HE.out]; rfl, by (repeat (first | exact Below.refl _ _ | assumption | refine Below.drew ?_ | refine balloc ?_ _ | refine bset ?_ (by simp; omega) _ | refine bset ?_ (by simp) _ | refine bstep ?_ (by assumption)))⟩
set_option maxHeartbeats 2000000 in
theorem implEvF_any (x : Value) (d : Evt) (w : World) (hx : evtR.V w x d) :
    Calls Tryz.prog 10 #[x] w fun e w' => e = .returned (.int .i64 (evtF d)) ∧ Below w.heap.size w w' := by
  have HX : Hid (∀ W, Below w.heap.size w W → evtR.V W x d) := fun W hW => evtR.below hx hW
  obtain ⟨a, c, rfl, hl⟩ := evt_open hx
  clear hx hl
  generalize d.con.legs.length = n at *
  cases hv : d.vote
  · have HK : Hid (∀ W, Below w.heap.size w W → Calls Tryz.prog 40 #[.agg #[.bool false, .int .i64 d.con.id, .slice a n c, .int .i64 d.out]] W fun e w' => e = .returned (.agg #[.func (.func 69) #[] #[], .func (.func 70) #[] #[], .func (.func 71) #[] #[]]) ∧ Below W.heap.size W w') := fun W hW => by have h := kindOf_out _ d W (HX.out W hW) hv; rw [hv] at h; exact h
    have HE : Hid (∀ W, Below w.heap.size w W → Calls Tryz.prog 69 #[.agg #[.bool false, .int .i64 d.con.id, .slice a n c, .int .i64 d.out]] W fun e w' => e = .returned (.int .i64 (evtF d)) ∧ Below W.heap.size W w') := fun W hW => by have h := outcomeFault_any _ d W (HX.out W hW) hv; rw [hv] at h; exact h
    have hfd := kindField0
    have eg := enters_of Tryz.func69 (by kernel_rfl) rfl
    generalize evtF d = R at *
    clear HX hv
    go_enter Tryz.func10, Tryz.ntmps10
    go_wp2
    refine wp_region_noPanic ?_
    refine region_upto (fun W => Below w.heap.size w W ∧ W.cell? ⟨w.heap.size, 0, none⟩ = some (.bool false) ∧ W.cell? ⟨w.heap.size, 1, none⟩ = some (.int .i64 d.con.id) ∧ W.cell? ⟨w.heap.size, 2, none⟩ = some (.slice a n c) ∧ W.cell? ⟨w.heap.size, 3, none⟩ = some (.int .i64 d.out)) 5 (by kernel_rfl) ⟨by (repeat (first | exact Below.refl _ _ | assumption | refine Below.drew ?_ | refine balloc ?_ _ | refine bset ?_ (by simp; omega) _ | refine bset ?_ (by simp) _ | refine bstep ?_ (by assumption))), by simp [go_sem], by simp [go_sem], by simp [go_sem], by simp [go_sem]⟩ (fun hS => ?_)
    refine upto_take (i := 0) (v := ?_) rfl (by kernel_rfl) (by kernel_rfl) (by kernel_rfl) (by kernel_rfl) (fun _ _ _ h => h) (by rfl) hS ?_ ?_
    rotate_left
    · intro wS hSw
      try dsimp only at hSw
      first | (go_simp; done) | (go_simp; with_reducible rfl)
    try simp only [Act.put, List.getElem_toArray, List.getElem_cons_zero, List.getElem_cons_succ, List.setIfInBounds_toArray, List.set_cons_zero, List.set_cons_succ]
    refine upto_take (i := 3) (v := ?_) rfl (by kernel_rfl) (by kernel_rfl) (by kernel_rfl) (by kernel_rfl) (fun _ _ _ h => h) (by rfl) hS ?_ ?_
    rotate_left
    · intro wS hSw
      try dsimp only at hSw
      first | (go_simp; done) | (go_simp; with_reducible rfl)
    try simp only [Act.put, List.getElem_toArray, List.getElem_cons_zero, List.getElem_cons_succ, List.setIfInBounds_toArray, List.set_cons_zero, List.set_cons_succ]
    refine upto_step (i := 1) (by kernel_rfl) rfl ?_
    intro K hK
    go_simp
    refine (HK.out _ hS.1).mono ?_
    rintro e w2 ⟨rfl, hb2⟩
    have hS2 := And.intro (bstep hS.1 hb2) (And.intro (cell_keep hb2 hS.2.1) (And.intro (cell_keep hb2 hS.2.2.1) (And.intro (cell_keep hb2 hS.2.2.2.1) (cell_keep hb2 hS.2.2.2.2))))
    refine hK _ _ (fun _ => hS2) ?_
    clear hK K hb2 HK hS
    try simp only [Act.put, List.getElem_toArray, List.getElem_cons_zero, List.getElem_cons_succ, List.setIfInBounds_toArray, List.set_cons_zero, List.set_cons_succ]
    refine upto_take (i := 2) (v := ?_) rfl (by kernel_rfl) (by kernel_rfl) (by kernel_rfl) (by kernel_rfl) (fun _ _ _ h => h) (by rfl) hS2 ?_ ?_
    rotate_left
    · intro wS hSw
      try dsimp only at hSw
      first | (go_simp; done) | (go_simp; with_reducible rfl)
    try simp only [Act.put, List.getElem_toArray, List.getElem_cons_zero, List.getElem_cons_succ, List.setIfInBounds_toArray, List.set_cons_zero, List.set_cons_succ]
    refine upto_step (i := 4) (by kernel_rfl) rfl ?_
    intro K hK
    go_simp
    refine (HE.out _ hS2.1).mono ?_
    rintro e w3 ⟨rfl, hb3⟩
    have hB3 : Below w.heap.size w w3 := bstep hS2.1 hb3
    have hS3 := And.intro (bstep hS2.1 hb3) (And.intro (cell_keep hb3 hS2.2.1) (And.intro (cell_keep hb3 hS2.2.2.1) (And.intro (cell_keep hb3 hS2.2.2.2.1) (cell_keep hb3 hS2.2.2.2.2))))
    refine hK _ _ (fun _ => hS3) ?_
    clear hK K hb3 HE hS2
    try simp only [Act.put, List.getElem_toArray, List.getElem_cons_zero, List.getElem_cons_succ, List.setIfInBounds_toArray, List.set_cons_zero, List.set_cons_succ]
    refine upto_step (i := 5) (by kernel_rfl) rfl ?_
    intro K hK
    go_simp
    refine hK _ _ (fun h => absurd rfl h) ?_
    clear hK K hS3
    refine upto_done (by kernel_rfl) ?_
    refine NoPanic.normal ?_
    go_wp2
    go_ret
    exact ⟨rfl, hB3⟩
  · have HK : Hid (∀ W, Below w.heap.size w W → Calls Tryz.prog 40 #[.agg #[.bool true, .int .i64 d.con.id, .slice a n c, .int .i64 d.out]] W fun e w' => e = .returned (.agg #[.func (.func 66) #[] #[], .func (.func 67) #[] #[], .func (.func 68) #[] #[]]) ∧ Below W.heap.size W w') := fun W hW => by have h := kindOf_vote _ d W (HX.out W hW) hv; rw [hv] at h; exact h
    have HE : Hid (∀ W, Below w.heap.size w W → Calls Tryz.prog 66 #[.agg #[.bool true, .int .i64 d.con.id, .slice a n c, .int .i64 d.out]] W fun e w' => e = .returned (.int .i64 (evtF d)) ∧ Below W.heap.size W w') := fun W hW => by have h := voteFault_any _ d W (HX.out W hW) hv; rw [hv] at h; exact h
    have hfd := kindField0
    have eg := enters_of Tryz.func66 (by kernel_rfl) rfl
    generalize evtF d = R at *
    clear HX hv
    go_enter Tryz.func10, Tryz.ntmps10
    go_wp2
    refine wp_region_noPanic ?_
    refine region_upto (fun W => Below w.heap.size w W ∧ W.cell? ⟨w.heap.size, 0, none⟩ = some (.bool true) ∧ W.cell? ⟨w.heap.size, 1, none⟩ = some (.int .i64 d.con.id) ∧ W.cell? ⟨w.heap.size, 2, none⟩ = some (.slice a n c) ∧ W.cell? ⟨w.heap.size, 3, none⟩ = some (.int .i64 d.out)) 5 (by kernel_rfl) ⟨by (repeat (first | exact Below.refl _ _ | assumption | refine Below.drew ?_ | refine balloc ?_ _ | refine bset ?_ (by simp; omega) _ | refine bset ?_ (by simp) _ | refine bstep ?_ (by assumption))), by simp [go_sem], by simp [go_sem], by simp [go_sem], by simp [go_sem]⟩ (fun hS => ?_)
    refine upto_take (i := 0) (v := ?_) rfl (by kernel_rfl) (by kernel_rfl) (by kernel_rfl) (by kernel_rfl) (fun _ _ _ h => h) (by rfl) hS ?_ ?_
    rotate_left
    · intro wS hSw
      try dsimp only at hSw
      first | (go_simp; done) | (go_simp; with_reducible rfl)
    try simp only [Act.put, List.getElem_toArray, List.getElem_cons_zero, List.getElem_cons_succ, List.setIfInBounds_toArray, List.set_cons_zero, List.set_cons_succ]
    refine upto_take (i := 3) (v := ?_) rfl (by kernel_rfl) (by kernel_rfl) (by kernel_rfl) (by kernel_rfl) (fun _ _ _ h => h) (by rfl) hS ?_ ?_
    rotate_left
    · intro wS hSw
      try dsimp only at hSw
      first | (go_simp; done) | (go_simp; with_reducible rfl)
    try simp only [Act.put, List.getElem_toArray, List.getElem_cons_zero, List.getElem_cons_succ, List.setIfInBounds_toArray, List.set_cons_zero, List.set_cons_succ]
    refine upto_step (i := 1) (by kernel_rfl) rfl ?_
    intro K hK
    go_simp
    refine (HK.out _ hS.1).mono ?_
    rintro e w2 ⟨rfl, hb2⟩
    have hS2 := And.intro (bstep hS.1 hb2) (And.intro (cell_keep hb2 hS.2.1) (And.intro (cell_keep hb2 hS.2.2.1) (And.intro (cell_keep hb2 hS.2.2.2.1) (cell_keep hb2 hS.2.2.2.2))))
    refine hK _ _ (fun _ => hS2) ?_
    clear hK K hb2 HK hS
    try simp only [Act.put, List.getElem_toArray, List.getElem_cons_zero, List.getElem_cons_succ, List.setIfInBounds_toArray, List.set_cons_zero, List.set_cons_succ]
    refine upto_take (i := 2) (v := ?_) rfl (by kernel_rfl) (by kernel_rfl) (by kernel_rfl) (by kernel_rfl) (fun _ _ _ h => h) (by rfl) hS2 ?_ ?_
    rotate_left
    · intro wS hSw
      try dsimp only at hSw
      first | (go_simp; done) | (go_simp; with_reducible rfl)
    try simp only [Act.put, List.getElem_toArray, List.getElem_cons_zero, List.getElem_cons_succ, List.setIfInBounds_toArray, List.set_cons_zero, List.set_cons_succ]
    refine upto_step (i := 4) (by kernel_rfl) rfl ?_
    intro K hK
    go_simp
    refine (HE.out _ hS2.1).mono ?_
    rintro e w3 ⟨rfl, hb3⟩
    have hB3 : Below w.heap.size w w3 := bstep hS2.1 hb3
    have hS3 := And.intro (bstep hS2.1 hb3) (And.intro (cell_keep hb3 hS2.2.1) (And.intro (cell_keep hb3 hS2.2.2.1) (And.intro (cell_keep hb3 hS2.2.2.2.1) (cell_keep hb3 hS2.2.2.2.2))))
    refine hK _ _ (fun _ => hS3) ?_
    clear hK K hb3 HE hS2
    try simp only [Act.put, List.getElem_toArray, List.getElem_cons_zero, List.getElem_cons_succ, List.setIfInBounds_toArray, List.set_cons_zero, List.set_cons_succ]
    refine upto_step (i := 5) (by kernel_rfl) rfl ?_
    intro K hK
    go_simp
    refine hK _ _ (fun h => absurd rfl h) ?_
    clear hK K hS3
    refine upto_done (by kernel_rfl) ?_
    refine NoPanic.normal ?_
    go_wp2
    go_ret
    exact ⟨rfl, hB3⟩
end Go.Proofs.YtecfelacdapdgaaGreat

/-
  PackEvent, the program's.
-/
set_option linter.unusedSimpArgs false
set_option linter.unusedVariables false
namespace Go.Proofs.YtecfelacdapdgaaGreat
open Go.RowKit
set_option linter.unusedSectionVars false
variable [DecidableEq Leg] [Inhabited Leg] [DecidableEq Cont] [Inhabited Cont] [DecidableEq Evt] [Inhabited Evt] [DecidableEq EvtR] [Inhabited EvtR] [DecidableEq BytesR] [Inhabited BytesR] [DecidableEq ContR] [Inhabited ContR] [DecidableEq Logg] [Inhabited Logg] [DecidableEq LoggR] [Inhabited LoggR] [DecidableEq RecsR] [Inhabited RecsR] [DecidableEq Rw] [Inhabited Rw] [DecidableEq Bal] [Inhabited Bal] [DecidableEq Ledg] [Inhabited Ledg] [DecidableEq LedgR] [Inhabited LedgR] [DecidableEq OutcR] [Inhabited OutcR] [DecidableEq Mrk] [Inhabited Mrk] [DecidableEq Shd] [Inhabited Shd] [DecidableEq ShdR] [Inhabited ShdR]
attribute [local go_sem ↓] Go.wp_at_zero Go.wp_at_succ

theorem brField (co : Int) (a : Option Addr) (n c : Nat) (w : World) : (Instr.field 39 (.agg #[.int .i64 co, .slice a n c]) 1).run Tryz.prog w = .ok (.slice a n c) w := by kernel_rfl
theorem evtB_vote (id : Int) (ls : List Leg) (o : Int) : evtB ⟨true, ⟨id, ls⟩, o⟩ = [[toB 1], contBy id ls].flatten := by
  rw [show evtB ⟨true, ⟨id, ls⟩, o⟩ = [toB 1] ++ contBy id ls from rfl]
  simp
theorem evtB_out (id : Int) (ls : List Leg) (o : Int) : evtB ⟨false, ⟨id, ls⟩, o⟩ = [[toB 2], hiB id 8, [toB o]].flatten := by
  rw [show evtB ⟨false, ⟨id, ls⟩, o⟩ = [toB 2] ++ hiB id 8 ++ [toB o] from rfl]
  simp
set_option maxRecDepth 20000 in
set_option maxHeartbeats 4000000 in
theorem voteBytes_u (x : Value) (d : Evt) (w : World) (hx : evtR.V w x d) (hv : d.vote = true) (hok : evtF d = 0) :
    Calls Tryz.prog 67 #[x] w fun e w' => ∃ v F, e = .returned v ∧ bytesR.O w' w.heap.size F v (evtB d) ∧ Below w.heap.size w w' := by
  obtain ⟨a, c, rfl, hl⟩ := evt_open hx
  obtain ⟨b, ⟨id, ls⟩, o⟩ := d
  dsimp only at hl hv ⊢
  subst hv
  clear hx
  have hcf := (evtF_vote_ok hok).1
  have h8 : ls.length ≤ 8 := (cf_inv hcf).2.2.1
  have HD : Hid (evtB ⟨true, ⟨id, ls⟩, o⟩ = [[toB 1], contBy id ls].flatten) := evtB_vote id ls o
  have hcl : (contBy id ls).length ≤ 96 := by rw [length_contBy]; omega
  have HLn : Hid ([[toB 1], contBy id ls].flatten.length ≤ 1073741824) := by simp only [Hid, List.flatten_cons, List.flatten_nil, List.length_append, List.length_cons, List.length_nil]; omega
  have HC : Hid (∀ W, Below w.heap.size w W → Calls Tryz.prog 94 #[.agg #[.int .i64 id, .slice a ls.length c]] W fun e w' => ∃ v F, e = .returned (.agg #[.int .i64 0, v]) ∧ bytesR.O w' W.heap.size F v (contBy id ls) ∧ Below W.heap.size W w') := fun W hW => by
    refine (implPackC_u _ ⟨id, ls⟩ W ⟨_, rfl, LegsV_below hl hW⟩).mono ?_
    rintro e w' ⟨v, F, rfl, ho, hb⟩
    have e1 : packD ⟨id, ls⟩ = ⟨0, contBy id ls⟩ := if_pos hcf
    rw [e1] at ho
    obtain ⟨u, F1, rfl, h1, h2⟩ := ho
    exact ⟨_, F1, rfl, h1, hb⟩
  generalize evtB ⟨true, ⟨id, ls⟩, o⟩ = R at *
  clear hok hcf h8 hl
  generalize contBy id ls = cb at *
  generalize ls.length = n at *
  have hfd := brField
  go_enter Tryz.func67, Tryz.ntmps67
  go_wp2
  refine wp_region_noPanic ?_
  refine region_upto (fun W => Below w.heap.size w W ∧ W.cell? ⟨w.heap.size, 0, none⟩ = some (.bool true) ∧ W.cell? ⟨w.heap.size, 1, none⟩ = some (.int .i64 id) ∧ W.cell? ⟨w.heap.size, 2, none⟩ = some (.slice a n c) ∧ W.cell? ⟨w.heap.size, 3, none⟩ = some (.int .i64 o)) 8 (by kernel_rfl) ⟨by (repeat (first | exact Below.refl _ _ | assumption | refine Below.drew ?_ | refine balloc ?_ _ | refine bset ?_ (by simp; omega) _ | refine bset ?_ (by simp) _ | refine bstep ?_ (by assumption))), by simp [go_sem], by simp [go_sem], by simp [go_sem], by simp [go_sem]⟩ (fun hS => ?_)
  refine upto_take (i := 2) (v := ?_) rfl (by kernel_rfl) (by kernel_rfl) (by kernel_rfl) (by kernel_rfl) (fun _ _ _ h => h) (by rfl) hS ?_ ?_
  rotate_left
  · intro wS hSw
    try dsimp only at hSw
    first | (go_simp; done) | (go_simp; with_reducible rfl)
  try simp only [Act.put, List.getElem_toArray, List.getElem_cons_zero, List.getElem_cons_succ, List.setIfInBounds_toArray, List.set_cons_zero, List.set_cons_succ]
  refine upto_take (i := 3) (v := ?_) rfl (by kernel_rfl) (by kernel_rfl) (by kernel_rfl) (by kernel_rfl) (fun _ _ _ h => h) (by rfl) hS ?_ ?_
  rotate_left
  · intro wS hSw
    try dsimp only at hSw
    first | (go_simp; done) | (go_simp; with_reducible rfl)
  try simp only [Act.put, List.getElem_toArray, List.getElem_cons_zero, List.getElem_cons_succ, List.setIfInBounds_toArray, List.set_cons_zero, List.set_cons_succ]
  obtain ⟨W0, hW0⟩ : ∃ W0, W0 = (w.alloc (.cells #[.bool true, .int .i64 id, .slice a n c, .int .i64 o] 84)).drew := ⟨_, rfl⟩
  have hz0 : w.heap.size < W0.heap.size := by rw [hW0]; simp
  rw [← hW0] at hS ⊢
  clear hW0
  refine upto_step (i := 0) (by kernel_rfl) rfl ?_
  intro K hK
  go_simp
  have hba : Below W0.heap.size W0 (W0.alloc (.cells #[.int .i64 1] 2)) := by (repeat (first | exact Below.refl _ _ | assumption | refine Below.drew ?_ | refine balloc ?_ _ | refine bset ?_ (by simp; omega) _ | refine bset ?_ (by simp) _ | refine bstep ?_ (by assumption)))
  have hS1 := And.intro (bstep hS.1 hba) (And.intro (cell_keep hba hS.2.1) (And.intro (cell_keep hba hS.2.2.1) (And.intro (cell_keep hba hS.2.2.2.1) (cell_keep hba hS.2.2.2.2))))
  refine hK _ _ (fun _ => hS1) ?_
  clear hK K
  try simp only [Act.put, List.getElem_toArray, List.getElem_cons_zero, List.getElem_cons_succ, List.setIfInBounds_toArray, List.set_cons_zero, List.set_cons_succ]
  refine upto_step (i := 1) (by kernel_rfl) rfl ?_
  intro K hK
  go_simp
  refine (singles_any _ [1] _ (nums1 (g := W0.heap.size) (by simp [go_sem])) (by simp)).mono ?_
  rintro e w2 ⟨v2, F2, rfl, o2, hb2⟩
  have hS2 := And.intro (bstep hS1.1 hb2) (And.intro (cell_keep hb2 hS1.2.1) (And.intro (cell_keep hb2 hS1.2.2.1) (And.intro (cell_keep hb2 hS1.2.2.2.1) (cell_keep hb2 hS1.2.2.2.2))))
  have V2 : bytesR.V w2 v2 [toB 1] := bytesR.ofO o2
  obtain ⟨p2, q2, rfl⟩ := bytes_form V2
  refine hK _ _ (fun _ => hS2) ?_
  clear hK K hS1 hb2 o2 hba hS
  try simp only [Act.put, List.getElem_toArray, List.getElem_cons_zero, List.getElem_cons_succ, List.setIfInBounds_toArray, List.set_cons_zero, List.set_cons_succ]
  refine upto_step (i := 4) (by kernel_rfl) rfl ?_
  intro K hK
  go_simp
  refine (HC.out _ hS2.1).mono ?_
  rintro e w3 ⟨v3, F3, rfl, o3, hb3⟩
  have hS3 := And.intro (bstep hS2.1 hb3) (And.intro (cell_keep hb3 hS2.2.1) (And.intro (cell_keep hb3 hS2.2.2.1) (And.intro (cell_keep hb3 hS2.2.2.2.1) (cell_keep hb3 hS2.2.2.2.2))))
  replace V2 := bytesR.below V2 hb3
  have V3 := bytesR.ofO o3
  obtain ⟨p3, q3, rfl⟩ := bytes_form V3
  refine hK _ _ (fun _ => hS3) ?_
  clear hK K hS2 hb3 o3 HC
  try simp only [Act.put, List.getElem_toArray, List.getElem_cons_zero, List.getElem_cons_succ, List.setIfInBounds_toArray, List.set_cons_zero, List.set_cons_succ]
  refine upto_take (i := 5) (v := ?_) rfl (by kernel_rfl) (by kernel_rfl) (by kernel_rfl) (by kernel_rfl) (fun _ _ _ h => h) (by rfl) hS3 ?_ ?_
  rotate_left
  · intro wS hSw
    try dsimp only at hSw
    first | (go_simp; done) | (go_simp; with_reducible rfl)
  try simp only [Act.put, List.getElem_toArray, List.getElem_cons_zero, List.getElem_cons_succ, List.setIfInBounds_toArray, List.set_cons_zero, List.set_cons_succ]
  refine upto_step (i := 6) (by kernel_rfl) rfl ?_
  intro K hK
  go_simp
  have hba : Below w3.heap.size w3 (w3.alloc (.cells #[.slice p2 [toB 1].length q2, .slice p3 cb.length q3] 37)) := by (repeat (first | exact Below.refl _ _ | assumption | refine Below.drew ?_ | refine balloc ?_ _ | refine bset ?_ (by simp; omega) _ | refine bset ?_ (by simp) _ | refine bstep ?_ (by assumption)))
  have hS4 := And.intro (bstep hS3.1 hba) (And.intro (cell_keep hba hS3.2.1) (And.intro (cell_keep hba hS3.2.2.1) (And.intro (cell_keep hba hS3.2.2.2.1) (cell_keep hba hS3.2.2.2.2))))
  replace V2 := bytesR.below V2 hba
  replace V3 := bytesR.below V3 hba
  refine hK _ _ (fun _ => hS4) ?_
  clear hK K hS3 hba
  try simp only [Act.put, List.getElem_toArray, List.getElem_cons_zero, List.getElem_cons_succ, List.setIfInBounds_toArray, List.set_cons_zero, List.set_cons_succ]
  refine upto_step (i := 7) (by kernel_rfl) rfl ?_
  intro K hK
  go_simp
  refine (joined_any _ [[toB 1], cb] _ (bytess2 (g := w3.heap.size) (by simp [go_sem]) (by simp [go_sem]) V2 V3) HLn.out).mono ?_
  rintro e w5 ⟨v5, F5, rfl, o5, hb5⟩
  have hS5 := And.intro (bstep hS4.1 hb5) (And.intro (cell_keep hb5 hS4.2.1) (And.intro (cell_keep hb5 hS4.2.2.1) (And.intro (cell_keep hb5 hS4.2.2.2.1) (cell_keep hb5 hS4.2.2.2.2))))
  have hB5 : Below w.heap.size w w5 := hS5.1
  have HO : Hid (bytesR.O w5 w.heap.size F5 v5 [[toB 1], cb].flatten) := bytesR.base o5 (hS4.1.size)
  refine hK _ _ (fun _ => hS5) ?_
  clear hK K hS4 hb5 o5 V2 V3
  try simp only [Act.put, List.getElem_toArray, List.getElem_cons_zero, List.getElem_cons_succ, List.setIfInBounds_toArray, List.set_cons_zero, List.set_cons_succ]
  refine upto_step (i := 8) (by kernel_rfl) rfl ?_
  intro K hK
  go_simp
  refine hK _ _ (fun h => absurd rfl h) ?_
  clear hK K hS5
  refine upto_done (by kernel_rfl) ?_
  refine NoPanic.normal ?_
  go_wp2
  go_ret
  exact ⟨_, F5, rfl, by rw [HD.out]; exact HO.out, hB5⟩
def ob14G (id o : Int) : Nat → (Nat → Value) → Nat → Nat → World → Prop
  | 0, y, _, _, w => ∃ B, y 3 = .slice (some ⟨B, 0, none⟩) 1 1 ∧ w.cell? ⟨B, 0, none⟩ = some (.int .i64 2)
  | 1, y, _, _, w => bytesR.V w (y 4) [toB 2]
  | 5, y, _, _, w => bytesR.V w (y 8) (hiB id 8)
  | 8, y, _, _, w => ∃ B, y 11 = .slice (some ⟨B, 0, none⟩) 1 1 ∧ w.cell? ⟨B, 0, none⟩ = some (.int .i64 o)
  | 9, y, _, _, w => bytesR.V w (y 12) [toB o]
  | 10, y, _, _, w => bytessR.V w (y 13) [[toB 2], hiB id 8, [toB o]]
  | 11, y, lo, _, w => ∃ F, bytesR.O w lo F (y 14) [[toB 2], hiB id 8, [toB o]].flatten
  | _, _, _, _, _ => True
set_option maxRecDepth 20000 in
set_option maxHeartbeats 4000000 in
theorem outcomeBytes_u (x : Value) (d : Evt) (w : World) (hx : evtR.V w x d) (hv : d.vote = false) :
    Calls Tryz.prog 70 #[x] w fun e w' => ∃ v F, e = .returned v ∧ bytesR.O w' w.heap.size F v (evtB d) ∧ Below w.heap.size w w' := by
  obtain ⟨a, c, rfl, hl⟩ := evt_open hx
  obtain ⟨b, ⟨id, ls⟩, o⟩ := d
  dsimp only at hl hv ⊢
  subst hv
  clear hx hl
  have HD : Hid (evtB ⟨false, ⟨id, ls⟩, o⟩ = [[toB 2], hiB id 8, [toB o]].flatten) := evtB_out id ls o
  have HLn : Hid ([[toB 2], hiB id 8, [toB o]].flatten.length ≤ 1073741824) := by simp only [Hid, List.flatten_cons, List.flatten_nil, List.length_append, length_hiB, List.length_cons, List.length_nil]; omega
  generalize evtB ⟨false, ⟨id, ls⟩, o⟩ = R at *
  generalize ls.length = n at *
  go_enter Tryz.func70, Tryz.ntmps70
  go_wp2
  obtain ⟨wq, hwq⟩ : ∃ wq, wq = w.alloc (.cells #[.bool false, .int .i64 id, .slice a n c, .int .i64 o] 84) := ⟨_, rfl⟩
  have y0 : wq.cell? ⟨w.heap.size, 0, none⟩ = some (.bool false) := by rw [hwq]; simp [go_sem]
  have y1 : wq.cell? ⟨w.heap.size, 1, none⟩ = some (.int .i64 id) := by rw [hwq]; simp [go_sem]
  have y2 : wq.cell? ⟨w.heap.size, 2, none⟩ = some (.slice a n c) := by rw [hwq]; simp [go_sem]
  have y3 : wq.cell? ⟨w.heap.size, 3, none⟩ = some (.int .i64 o) := by rw [hwq]; simp [go_sem]
  have hBq : Below w.heap.size w wq := by rw [hwq]; (repeat (first | exact Below.refl _ _ | assumption | refine Below.drew ?_ | refine balloc ?_ _ | refine bset ?_ (by simp; omega) _ | refine bset ?_ (by simp) _ | refine bstep ?_ (by assumption)))
  have zq : w.heap.size < wq.heap.size := by rw [hwq]; simp
  rw [← hwq]
  clear hwq
  refine wp_region_noPanic ?_
  refine region_upto (fun W => Below wq.heap.size wq W ∧ W.cell? ⟨w.heap.size, 0, none⟩ = some (.bool false) ∧ W.cell? ⟨w.heap.size, 1, none⟩ = some (.int .i64 id) ∧ W.cell? ⟨w.heap.size, 2, none⟩ = some (.slice a n c) ∧ W.cell? ⟨w.heap.size, 3, none⟩ = some (.int .i64 o)) 12 (by kernel_rfl) ⟨by (repeat (first | exact Below.refl _ _ | assumption | refine Below.drew ?_ | refine balloc ?_ _ | refine bset ?_ (by simp; omega) _ | refine bset ?_ (by simp) _ | refine bstep ?_ (by assumption))), cell_keep (by (repeat (first | exact Below.refl _ _ | assumption | refine Below.drew ?_ | refine balloc ?_ _ | refine bset ?_ (by simp; omega) _ | refine bset ?_ (by simp) _ | refine bstep ?_ (by assumption)))) y0, cell_keep (by (repeat (first | exact Below.refl _ _ | assumption | refine Below.drew ?_ | refine balloc ?_ _ | refine bset ?_ (by simp; omega) _ | refine bset ?_ (by simp) _ | refine bstep ?_ (by assumption)))) y1, cell_keep (by (repeat (first | exact Below.refl _ _ | assumption | refine Below.drew ?_ | refine balloc ?_ _ | refine bset ?_ (by simp; omega) _ | refine bset ?_ (by simp) _ | refine bstep ?_ (by assumption)))) y2, cell_keep (by (repeat (first | exact Below.refl _ _ | assumption | refine Below.drew ?_ | refine balloc ?_ _ | refine bset ?_ (by simp; omega) _ | refine bset ?_ (by simp) _ | refine bstep ?_ (by assumption)))) y3⟩ (fun hS => ?_)
  refine upto_take (i := 2) (v := ?_) rfl (by kernel_rfl) (by kernel_rfl) (by kernel_rfl) (by kernel_rfl) (fun _ _ _ h => h) (by rfl) hS ?_ ?_
  rotate_left
  · intro wS hSw
    try dsimp only at hSw
    first | (go_simp; done) | (go_simp; with_reducible rfl)
  try simp only [Act.put, List.getElem_toArray, List.getElem_cons_zero, List.getElem_cons_succ, List.setIfInBounds_toArray, List.set_cons_zero, List.set_cons_succ]
  refine upto_take (i := 3) (v := ?_) rfl (by kernel_rfl) (by kernel_rfl) (by kernel_rfl) (by kernel_rfl) (fun _ _ _ h => h) (by rfl) hS ?_ ?_
  rotate_left
  · intro wS hSw
    try dsimp only at hSw
    first | (go_simp; done) | (go_simp; with_reducible rfl)
  try simp only [Act.put, List.getElem_toArray, List.getElem_cons_zero, List.getElem_cons_succ, List.setIfInBounds_toArray, List.set_cons_zero, List.set_cons_succ]
  refine upto_take (i := 4) (v := ?_) rfl (by kernel_rfl) (by kernel_rfl) (by kernel_rfl) (by kernel_rfl) (fun _ _ _ h => h) (by rfl) hS ?_ ?_
  rotate_left
  · intro wS hSw
    try dsimp only at hSw
    first | (go_simp; done) | (go_simp; with_reducible rfl)
  try simp only [Act.put, List.getElem_toArray, List.getElem_cons_zero, List.getElem_cons_succ, List.setIfInBounds_toArray, List.set_cons_zero, List.set_cons_succ]
  refine upto_take (i := 6) (v := ?_) rfl (by kernel_rfl) (by kernel_rfl) (by kernel_rfl) (by kernel_rfl) (fun _ _ _ h => h) (by rfl) hS ?_ ?_
  rotate_left
  · intro wS hSw
    try dsimp only at hSw
    first | (go_simp; done) | (go_simp; with_reducible rfl)
  try simp only [Act.put, List.getElem_toArray, List.getElem_cons_zero, List.getElem_cons_succ, List.setIfInBounds_toArray, List.set_cons_zero, List.set_cons_succ]
  refine upto_take (i := 7) (v := ?_) rfl (by kernel_rfl) (by kernel_rfl) (by kernel_rfl) (by kernel_rfl) (fun _ _ _ h => h) (by rfl) hS ?_ ?_
  rotate_left
  · intro wS hSw
    try dsimp only at hSw
    first | (go_simp; done) | (go_simp; with_reducible rfl)
  try simp only [Act.put, List.getElem_toArray, List.getElem_cons_zero, List.getElem_cons_succ, List.setIfInBounds_toArray, List.set_cons_zero, List.set_cons_succ]
  have hb0 : Below wq.heap.size wq wq.drew := Below.drew (Below.refl _ _)
  generalize wq.drew = W0 at *
  have hs10 := hb0.size
  have hz0 : w.heap.size < W0.heap.size := by omega
  refine upto_stable' [(0, 3), (1, 4), (5, 8), (8, 11), (9, 12), (10, 13), (11, 14)] (ob14G id o) (by kernel_rfl) hS (fun W W' h hb => ⟨bstep h.1 hb, cell_keep hb h.2.1, cell_keep hb h.2.2.1, cell_keep hb h.2.2.2.1, cell_keep hb h.2.2.2.2⟩) ?_ ?_ ?_
  · intro p hp
    simp only [List.mem_cons, List.not_mem_nil, or_false] at hp
    rcases hp with rfl | rfl | rfl | rfl | rfl | rfl | rfl
    all_goals
      intro y y' lo hi W W' h hi' hb e he
      simp only [ob14G] at h ⊢
      rw [e]
    · exact ⟨h.choose, h.choose_spec.1, cell_keep hb h.choose_spec.2⟩
    · exact bytesR.below h hb
    · exact bytesR.below h hb
    · exact ⟨h.choose, h.choose_spec.1, cell_keep hb h.choose_spec.2⟩
    · exact bytesR.below h hb
    · exact bytessR.below h hb
    · exact ⟨h.choose, bytesR.keep h.choose_spec hb⟩
  · intro p hp
    simp only [List.mem_cons, List.not_mem_nil, or_false] at hp
    rcases hp with rfl | rfl | rfl | rfl | rfl | rfl | rfl
    all_goals
      refine ⟨_, rfl, rfl, ?_⟩
      intro y W lo hi hSW hBW hd hap K hK
      clear hap
    · clear hd
      refine ⟨?_⟩
      simp only [over, Act.put, List.getElem_toArray, List.getElem_cons_zero, List.getElem_cons_succ, List.map_cons, List.map_nil, List.foldl_cons, List.foldl_nil, List.setIfInBounds_toArray, List.set_cons_zero, List.set_cons_succ] at hK ⊢
      go_simp
      refine hK _ _ (by (repeat (first | exact Below.refl _ _ | assumption | refine Below.drew ?_ | refine balloc ?_ _ | refine bset ?_ (by simp; omega) _ | refine bset ?_ (by simp) _ | refine bstep ?_ (by assumption)))) ?_
      simp only [ob14G, updV]
      exact ⟨_, rfl, by simp [go_sem]⟩
    · have g0 := (hd (0, 3) (by simp) (by kernel_rfl)).2
      clear hd
      simp only [ob14G] at g0
      obtain ⟨B, e1, g0⟩ := g0
      refine ⟨?_⟩
      simp only [over, Act.put, List.getElem_toArray, List.getElem_cons_zero, List.getElem_cons_succ, List.map_cons, List.map_nil, List.foldl_cons, List.foldl_nil, List.setIfInBounds_toArray, List.set_cons_zero, List.set_cons_succ] at hK ⊢
      simp only [e1] at hK ⊢
      go_simp
      refine (singles_any _ [2] _ (nums1 (g := B) g0) (by simp)).mono ?_
      rintro e w2 ⟨v2, F2, rfl, o2, hb2⟩
      refine hK _ _ hb2 ?_
      simp only [ob14G, updV]
      exact bytesR.ofO (by simpa using o2)
    · clear hd
      refine ⟨?_⟩
      simp only [over, Act.put, List.getElem_toArray, List.getElem_cons_zero, List.getElem_cons_succ, List.map_cons, List.map_nil, List.foldl_cons, List.foldl_nil, List.setIfInBounds_toArray, List.set_cons_zero, List.set_cons_succ] at hK ⊢
      go_simp
      refine (implPack_u id _).mono ?_
      rintro e w2 ⟨v2, F2, rfl, o2, hb2⟩
      refine hK _ _ hb2 ?_
      simp only [ob14G, updV]
      exact bytesR.ofO (by simpa using o2)
    · clear hd
      refine ⟨?_⟩
      simp only [over, Act.put, List.getElem_toArray, List.getElem_cons_zero, List.getElem_cons_succ, List.map_cons, List.map_nil, List.foldl_cons, List.foldl_nil, List.setIfInBounds_toArray, List.set_cons_zero, List.set_cons_succ] at hK ⊢
      go_simp
      refine hK _ _ (by (repeat (first | exact Below.refl _ _ | assumption | refine Below.drew ?_ | refine balloc ?_ _ | refine bset ?_ (by simp; omega) _ | refine bset ?_ (by simp) _ | refine bstep ?_ (by assumption)))) ?_
      simp only [ob14G, updV]
      exact ⟨_, rfl, by simp [go_sem]⟩
    · have g0 := (hd (8, 11) (by simp) (by kernel_rfl)).2
      clear hd
      simp only [ob14G] at g0
      obtain ⟨B, e1, g0⟩ := g0
      refine ⟨?_⟩
      simp only [over, Act.put, List.getElem_toArray, List.getElem_cons_zero, List.getElem_cons_succ, List.map_cons, List.map_nil, List.foldl_cons, List.foldl_nil, List.setIfInBounds_toArray, List.set_cons_zero, List.set_cons_succ] at hK ⊢
      simp only [e1] at hK ⊢
      go_simp
      refine (singles_any _ [o] _ (nums1 (g := B) g0) (by simp)).mono ?_
      rintro e w2 ⟨v2, F2, rfl, o2, hb2⟩
      refine hK _ _ hb2 ?_
      simp only [ob14G, updV]
      exact bytesR.ofO (by simpa using o2)
    · have g1 := (hd (1, 4) (by simp) (by kernel_rfl)).2
      have g5 := (hd (5, 8) (by simp) (by kernel_rfl)).2
      have g9 := (hd (9, 12) (by simp) (by kernel_rfl)).2
      clear hd
      simp only [ob14G] at g1 g5 g9
      refine ⟨?_⟩
      simp only [over, Act.put, List.getElem_toArray, List.getElem_cons_zero, List.getElem_cons_succ, List.map_cons, List.map_nil, List.foldl_cons, List.foldl_nil, List.setIfInBounds_toArray, List.set_cons_zero, List.set_cons_succ] at hK ⊢
      obtain ⟨a1, n1, e1⟩ := bytes_form g1
      obtain ⟨a5, n5, e5⟩ := bytes_form g5
      obtain ⟨a9, n9, e9⟩ := bytes_form g9
      rw [e1] at g1
      rw [e5] at g5
      rw [e9] at g9
      simp only [e1, e5, e9] at hK ⊢
      go_simp
      refine hK _ _ (by (repeat (first | exact Below.refl _ _ | assumption | refine Below.drew ?_ | refine balloc ?_ _ | refine bset ?_ (by simp; omega) _ | refine bset ?_ (by simp) _ | refine bstep ?_ (by assumption)))) ?_
      simp only [ob14G, updV]
      exact bytess3 (g := W.heap.size) (by simp [go_sem]) (by simp [go_sem]) (by simp [go_sem]) (bytesR.below g1 (by (repeat (first | exact Below.refl _ _ | assumption | refine Below.drew ?_ | refine balloc ?_ _ | refine bset ?_ (by simp; omega) _ | refine bset ?_ (by simp) _ | refine bstep ?_ (by assumption))))) (bytesR.below g5 (by (repeat (first | exact Below.refl _ _ | assumption | refine Below.drew ?_ | refine balloc ?_ _ | refine bset ?_ (by simp; omega) _ | refine bset ?_ (by simp) _ | refine bstep ?_ (by assumption))))) (bytesR.below g9 (by (repeat (first | exact Below.refl _ _ | assumption | refine Below.drew ?_ | refine balloc ?_ _ | refine bset ?_ (by simp; omega) _ | refine bset ?_ (by simp) _ | refine bstep ?_ (by assumption)))))
    · have g0 := (hd (10, 13) (by simp) (by kernel_rfl)).2
      clear hd
      simp only [ob14G] at g0
      refine ⟨?_⟩
      simp only [over, Act.put, List.getElem_toArray, List.getElem_cons_zero, List.getElem_cons_succ, List.map_cons, List.map_nil, List.foldl_cons, List.foldl_nil, List.setIfInBounds_toArray, List.set_cons_zero, List.set_cons_succ] at hK ⊢
      go_simp
      refine (joined_any _ _ _ g0 HLn.out).mono ?_
      rintro e w2 ⟨v2, F2, rfl, o2, hb2⟩
      refine hK _ _ hb2 ?_
      simp only [ob14G, updV]
      exact ⟨F2, by simpa using o2⟩
  · refine ⟨_, rfl, ?_⟩
    intro y W lo hi hSW hBW hd hap K hK
    have h1 := hd (11, 14) (by simp)
    clear hd hap
    simp only [ob14G] at h1
    obtain ⟨b1, F, o1⟩ := h1
    have HO : Hid (bytesR.O W w.heap.size F (y 14) [[toB 2], hiB id 8, [toB o]].flatten) := bytesR.base o1 (by have := b1.1; omega)
    have hBB : Below w.heap.size w W := bstep hBq (bstep hb0 hBW)
    clear o1 b1 hSW hS hBW
    refine ⟨?_⟩
    simp only [over, Act.put, List.getElem_toArray, List.getElem_cons_zero, List.getElem_cons_succ, List.map_cons, List.map_nil, List.foldl_cons, List.foldl_nil, List.setIfInBounds_toArray, List.set_cons_zero, List.set_cons_succ]
    go_simp
    refine hK _ _ ?_
    clear hK K
    refine NoPanic.normal ?_
    go_wp2
    go_ret
    exact ⟨_, F, rfl, by rw [HD.out]; exact HO.out, hBB⟩
set_option maxHeartbeats 4000000 in
theorem bytesOf_u (x : Value) (d : Evt) (w : World) (hx : evtR.V w x d) (hok : evtF d = 0) :
    Calls Tryz.prog 43 #[x] w fun e w' => ∃ v F, e = .returned v ∧ bytesR.O w' w.heap.size F v (evtB d) ∧ Below w.heap.size w w' := by
  have HX : Hid (∀ W, Below w.heap.size w W → evtR.V W x d) := fun W hW => evtR.below hx hW
  obtain ⟨a, c, rfl, hl⟩ := evt_open hx
  clear hx hl
  generalize d.con.legs.length = n at *
  cases hv : d.vote
  rotate_left
  · have HK : Hid (∀ W, Below w.heap.size w W → Calls Tryz.prog 40 #[.agg #[.bool true, .int .i64 d.con.id, .slice a n c, .int .i64 d.out]] W fun e w' => e = .returned (.agg #[.func (.func 66) #[] #[], .func (.func 67) #[] #[], .func (.func 68) #[] #[]]) ∧ Below W.heap.size W w') := fun W hW => by have h := kindOf_vote _ d W (HX.out W hW) hv; rw [hv] at h; exact h
    have HE : Hid (∀ W, Below w.heap.size w W → Calls Tryz.prog 67 #[.agg #[.bool true, .int .i64 d.con.id, .slice a n c, .int .i64 d.out]] W fun e w' => ∃ v F, e = .returned v ∧ bytesR.O w' W.heap.size F v (evtB d) ∧ Below W.heap.size W w') := fun W hW => by have h := voteBytes_u _ d W (HX.out W hW) hv hok; rw [hv] at h; exact h
    have hfd := kindField1
    have eg := enters_of Tryz.func67 (by kernel_rfl) rfl
    clear hok
    generalize evtB d = R at *
    clear HX hv
    go_enter Tryz.func43, Tryz.ntmps43
    go_wp2
    refine wp_region_noPanic ?_
    refine region_upto (fun W => Below w.heap.size w W ∧ W.cell? ⟨w.heap.size, 0, none⟩ = some (.bool true) ∧ W.cell? ⟨w.heap.size, 1, none⟩ = some (.int .i64 d.con.id) ∧ W.cell? ⟨w.heap.size, 2, none⟩ = some (.slice a n c) ∧ W.cell? ⟨w.heap.size, 3, none⟩ = some (.int .i64 d.out)) 5 (by kernel_rfl) ⟨by (repeat (first | exact Below.refl _ _ | assumption | refine Below.drew ?_ | refine balloc ?_ _ | refine bset ?_ (by simp; omega) _ | refine bset ?_ (by simp) _ | refine bstep ?_ (by assumption))), by simp [go_sem], by simp [go_sem], by simp [go_sem], by simp [go_sem]⟩ (fun hS => ?_)
    refine upto_take (i := 0) (v := ?_) rfl (by kernel_rfl) (by kernel_rfl) (by kernel_rfl) (by kernel_rfl) (fun _ _ _ h => h) (by rfl) hS ?_ ?_
    rotate_left
    · intro wS hSw
      try dsimp only at hSw
      first | (go_simp; done) | (go_simp; with_reducible rfl)
    try simp only [Act.put, List.getElem_toArray, List.getElem_cons_zero, List.getElem_cons_succ, List.setIfInBounds_toArray, List.set_cons_zero, List.set_cons_succ]
    refine upto_take (i := 3) (v := ?_) rfl (by kernel_rfl) (by kernel_rfl) (by kernel_rfl) (by kernel_rfl) (fun _ _ _ h => h) (by rfl) hS ?_ ?_
    rotate_left
    · intro wS hSw
      try dsimp only at hSw
      first | (go_simp; done) | (go_simp; with_reducible rfl)
    try simp only [Act.put, List.getElem_toArray, List.getElem_cons_zero, List.getElem_cons_succ, List.setIfInBounds_toArray, List.set_cons_zero, List.set_cons_succ]
    refine upto_step (i := 1) (by kernel_rfl) rfl ?_
    intro K hK
    go_simp
    refine (HK.out _ hS.1).mono ?_
    rintro e w2 ⟨rfl, hb2⟩
    have hS2 := And.intro (bstep hS.1 hb2) (And.intro (cell_keep hb2 hS.2.1) (And.intro (cell_keep hb2 hS.2.2.1) (And.intro (cell_keep hb2 hS.2.2.2.1) (cell_keep hb2 hS.2.2.2.2))))
    refine hK _ _ (fun _ => hS2) ?_
    clear hK K hb2 HK hS
    try simp only [Act.put, List.getElem_toArray, List.getElem_cons_zero, List.getElem_cons_succ, List.setIfInBounds_toArray, List.set_cons_zero, List.set_cons_succ]
    refine upto_take (i := 2) (v := ?_) rfl (by kernel_rfl) (by kernel_rfl) (by kernel_rfl) (by kernel_rfl) (fun _ _ _ h => h) (by rfl) hS2 ?_ ?_
    rotate_left
    · intro wS hSw
      try dsimp only at hSw
      first | (go_simp; done) | (go_simp; with_reducible rfl)
    try simp only [Act.put, List.getElem_toArray, List.getElem_cons_zero, List.getElem_cons_succ, List.setIfInBounds_toArray, List.set_cons_zero, List.set_cons_succ]
    refine upto_step (i := 4) (by kernel_rfl) rfl ?_
    intro K hK
    go_simp
    refine (HE.out _ hS2.1).mono ?_
    rintro e w3 ⟨v3, F3, rfl, o3, hb3⟩
    have hB3 : Below w.heap.size w w3 := bstep hS2.1 hb3
    have HO : Hid (bytesR.O w3 w.heap.size F3 v3 R) := bytesR.base o3 hS2.1.size
    have hS3 := And.intro (bstep hS2.1 hb3) (And.intro (cell_keep hb3 hS2.2.1) (And.intro (cell_keep hb3 hS2.2.2.1) (And.intro (cell_keep hb3 hS2.2.2.2.1) (cell_keep hb3 hS2.2.2.2.2))))
    refine hK _ _ (fun _ => hS3) ?_
    clear hK K hb3 HE hS2 o3
    try simp only [Act.put, List.getElem_toArray, List.getElem_cons_zero, List.getElem_cons_succ, List.setIfInBounds_toArray, List.set_cons_zero, List.set_cons_succ]
    refine upto_step (i := 5) (by kernel_rfl) rfl ?_
    intro K hK
    go_simp
    refine hK _ _ (fun h => absurd rfl h) ?_
    clear hK K hS3
    refine upto_done (by kernel_rfl) ?_
    refine NoPanic.normal ?_
    go_wp2
    go_ret
    exact ⟨_, F3, rfl, HO.out, hB3⟩
  · have HK : Hid (∀ W, Below w.heap.size w W → Calls Tryz.prog 40 #[.agg #[.bool false, .int .i64 d.con.id, .slice a n c, .int .i64 d.out]] W fun e w' => e = .returned (.agg #[.func (.func 69) #[] #[], .func (.func 70) #[] #[], .func (.func 71) #[] #[]]) ∧ Below W.heap.size W w') := fun W hW => by have h := kindOf_out _ d W (HX.out W hW) hv; rw [hv] at h; exact h
    have HE : Hid (∀ W, Below w.heap.size w W → Calls Tryz.prog 70 #[.agg #[.bool false, .int .i64 d.con.id, .slice a n c, .int .i64 d.out]] W fun e w' => ∃ v F, e = .returned v ∧ bytesR.O w' W.heap.size F v (evtB d) ∧ Below W.heap.size W w') := fun W hW => by have h := outcomeBytes_u _ d W (HX.out W hW) hv; rw [hv] at h; exact h
    have hfd := kindField1
    have eg := enters_of Tryz.func70 (by kernel_rfl) rfl
    clear hok
    generalize evtB d = R at *
    clear HX hv
    go_enter Tryz.func43, Tryz.ntmps43
    go_wp2
    refine wp_region_noPanic ?_
    refine region_upto (fun W => Below w.heap.size w W ∧ W.cell? ⟨w.heap.size, 0, none⟩ = some (.bool false) ∧ W.cell? ⟨w.heap.size, 1, none⟩ = some (.int .i64 d.con.id) ∧ W.cell? ⟨w.heap.size, 2, none⟩ = some (.slice a n c) ∧ W.cell? ⟨w.heap.size, 3, none⟩ = some (.int .i64 d.out)) 5 (by kernel_rfl) ⟨by (repeat (first | exact Below.refl _ _ | assumption | refine Below.drew ?_ | refine balloc ?_ _ | refine bset ?_ (by simp; omega) _ | refine bset ?_ (by simp) _ | refine bstep ?_ (by assumption))), by simp [go_sem], by simp [go_sem], by simp [go_sem], by simp [go_sem]⟩ (fun hS => ?_)
    refine upto_take (i := 0) (v := ?_) rfl (by kernel_rfl) (by kernel_rfl) (by kernel_rfl) (by kernel_rfl) (fun _ _ _ h => h) (by rfl) hS ?_ ?_
    rotate_left
    · intro wS hSw
      try dsimp only at hSw
      first | (go_simp; done) | (go_simp; with_reducible rfl)
    try simp only [Act.put, List.getElem_toArray, List.getElem_cons_zero, List.getElem_cons_succ, List.setIfInBounds_toArray, List.set_cons_zero, List.set_cons_succ]
    refine upto_take (i := 3) (v := ?_) rfl (by kernel_rfl) (by kernel_rfl) (by kernel_rfl) (by kernel_rfl) (fun _ _ _ h => h) (by rfl) hS ?_ ?_
    rotate_left
    · intro wS hSw
      try dsimp only at hSw
      first | (go_simp; done) | (go_simp; with_reducible rfl)
    try simp only [Act.put, List.getElem_toArray, List.getElem_cons_zero, List.getElem_cons_succ, List.setIfInBounds_toArray, List.set_cons_zero, List.set_cons_succ]
    refine upto_step (i := 1) (by kernel_rfl) rfl ?_
    intro K hK
    go_simp
    refine (HK.out _ hS.1).mono ?_
    rintro e w2 ⟨rfl, hb2⟩
    have hS2 := And.intro (bstep hS.1 hb2) (And.intro (cell_keep hb2 hS.2.1) (And.intro (cell_keep hb2 hS.2.2.1) (And.intro (cell_keep hb2 hS.2.2.2.1) (cell_keep hb2 hS.2.2.2.2))))
    refine hK _ _ (fun _ => hS2) ?_
    clear hK K hb2 HK hS
    try simp only [Act.put, List.getElem_toArray, List.getElem_cons_zero, List.getElem_cons_succ, List.setIfInBounds_toArray, List.set_cons_zero, List.set_cons_succ]
    refine upto_take (i := 2) (v := ?_) rfl (by kernel_rfl) (by kernel_rfl) (by kernel_rfl) (by kernel_rfl) (fun _ _ _ h => h) (by rfl) hS2 ?_ ?_
    rotate_left
    · intro wS hSw
      try dsimp only at hSw
      first | (go_simp; done) | (go_simp; with_reducible rfl)
    try simp only [Act.put, List.getElem_toArray, List.getElem_cons_zero, List.getElem_cons_succ, List.setIfInBounds_toArray, List.set_cons_zero, List.set_cons_succ]
    refine upto_step (i := 4) (by kernel_rfl) rfl ?_
    intro K hK
    go_simp
    refine (HE.out _ hS2.1).mono ?_
    rintro e w3 ⟨v3, F3, rfl, o3, hb3⟩
    have hB3 : Below w.heap.size w w3 := bstep hS2.1 hb3
    have HO : Hid (bytesR.O w3 w.heap.size F3 v3 R) := bytesR.base o3 hS2.1.size
    have hS3 := And.intro (bstep hS2.1 hb3) (And.intro (cell_keep hb3 hS2.2.1) (And.intro (cell_keep hb3 hS2.2.2.1) (And.intro (cell_keep hb3 hS2.2.2.2.1) (cell_keep hb3 hS2.2.2.2.2))))
    refine hK _ _ (fun _ => hS3) ?_
    clear hK K hb3 HE hS2 o3
    try simp only [Act.put, List.getElem_toArray, List.getElem_cons_zero, List.getElem_cons_succ, List.setIfInBounds_toArray, List.set_cons_zero, List.set_cons_succ]
    refine upto_step (i := 5) (by kernel_rfl) rfl ?_
    intro K hK
    go_simp
    refine hK _ _ (fun h => absurd rfl h) ?_
    clear hK K hS3
    refine upto_done (by kernel_rfl) ?_
    refine NoPanic.normal ?_
    go_wp2
    go_ret
    exact ⟨_, F3, rfl, HO.out, hB3⟩
set_option maxHeartbeats 2000000 in
theorem implPackE_u (x : Value) (d : Evt) (w : World) (hx : evtR.V w x d) :
    Calls Tryz.prog 13 #[x] w fun e w' => ∃ v F, e = .returned v ∧ bytesRR.O w' w.heap.size F v (packE d) ∧ Below w.heap.size w w' := by
  have HF : Hid (∀ W, Below w.heap.size w W → Calls Tryz.prog 10 #[x] W fun e w' => e = .returned (.int .i64 (evtF d)) ∧ Below W.heap.size W w') := fun W hW => implEvF_any x d W (evtR.below hx hW)
  have HP : Hid (evtF d = 0 → ∀ W, Below w.heap.size w W → Calls Tryz.prog 43 #[x] W fun e w' => ∃ v F, e = .returned v ∧ bytesR.O w' W.heap.size F v (evtB d) ∧ Below W.heap.size W w') := fun h W hW => bytesOf_u x d W (evtR.below hx hW) h
  have H0 : Hid (evtF d = 0 → packE d = ⟨0, evtB d⟩) := fun h => if_pos h
  have H1 : Hid (¬ evtF d = 0 → packE d = ⟨evtF d, []⟩) := fun h => if_neg h
  obtain ⟨a, c, rfl, hl⟩ := evt_open hx
  clear hx hl
  generalize packE d = R at *
  generalize evtF d = ef at *
  generalize evtB d = eb at *
  generalize d.con.legs.length = n at *
  go_enter Tryz.func13, Tryz.ntmps13
  go_wp2_with fail
  refine (HF.out _ (by (repeat (first | exact Below.refl _ _ | assumption | refine Below.drew ?_ | refine balloc ?_ _ | refine bset ?_ (by simp; omega) _ | refine bset ?_ (by simp) _ | refine bstep ?_ (by assumption))))).mono ?_
  rintro e w1 ⟨rfl, hb1⟩
  have hB1 : Below w.heap.size w w1 := by (repeat (first | exact Below.refl _ _ | assumption | refine Below.drew ?_ | refine balloc ?_ _ | refine bset ?_ (by simp; omega) _ | refine bset ?_ (by simp) _ | refine bstep ?_ (by assumption)))
  have y0 : w1.cell? ⟨w.heap.size, 0, none⟩ = some (.bool d.vote) := cell_keep hb1 (by simp [go_sem])
  have y1 : w1.cell? ⟨w.heap.size, 1, none⟩ = some (.int .i64 d.con.id) := cell_keep hb1 (by simp [go_sem])
  have y2 : w1.cell? ⟨w.heap.size, 2, none⟩ = some (.slice a n c) := cell_keep hb1 (by simp [go_sem])
  have y3 : w1.cell? ⟨w.heap.size, 3, none⟩ = some (.int .i64 d.out) := cell_keep hb1 (by simp [go_sem])
  have r0 : w1.cell? ⟨w.heap.size + 1, 0, none⟩ = some (.int .i64 0) := cell_keep hb1 (by simp [go_sem])
  have r1 : w1.cell? ⟨w.heap.size + 1, 1, none⟩ = some (.slice none 0 0) := cell_keep hb1 (by simp [go_sem])
  have hrf : (∀ o, w1.frozen? ⟨w.heap.size + 1, o, none⟩ = false) ∧ w.heap.size + 1 < w1.heap.size := (boxNew2 hb1 (by simp)).2.2
  clear hb1 HF
  by_cases hc : ef = 0
  · have HC : Hid (R = ⟨0, eb⟩) := H0.out hc
    have HP' : Hid _ := HP.out hc
    clear H0 H1 HP
    subst hc
    have hz := hrf.2
    go_wp2_with fail
    refine (HP'.out _ (by (repeat (first | exact Below.refl _ _ | assumption | refine Below.drew ?_ | refine balloc ?_ _ | refine bset ?_ (by simp; omega) _ | refine bset ?_ (by simp) _ | refine bstep ?_ (by assumption))))).mono ?_
    rintro e w2 ⟨v2, F2, rfl, o2, hb2⟩
    have hB2 : Below w.heap.size w w2 := bstep (by (repeat (first | exact Below.refl _ _ | assumption | refine Below.drew ?_ | refine balloc ?_ _ | refine bset ?_ (by simp; omega) _ | refine bset ?_ (by simp) _ | refine bstep ?_ (by assumption)))) hb2
    replace r0 := cell_keep hb2 r0
    replace r1 := cell_keep hb2 r1
    obtain ⟨rf, rz⟩ := boxKeep hrf hb2
    obtain ⟨p, q, rfl⟩ := bytes_form (bytesR.ofO o2)
    have HO : Hid (bytesR.O w2 (w.heap.size + 2) F2 (.slice p eb.length q) eb) := bytesR.base o2 (by omega)
    clear o2 hb2 HP'
    generalize hn : eb.length = m at *
    go_wp2
    refine bodyPost_ret (v := .agg #[.int .i64 0, .slice p m q]) (by simp [results, Tryz.results13, go_sem, r0, r1, rf]) rfl ⟨_, F2, rfl, ?_, by (repeat (first | exact Below.refl _ _ | assumption | refine Below.drew ?_ | refine balloc ?_ _ | refine bset ?_ (by simp; omega) _ | refine bset ?_ (by simp) _ | refine bstep ?_ (by assumption)))⟩
    rw [HC.out]
    exact ⟨_, F2, rfl, bytesR.base (base := w.heap.size + 2) (bytesR.set (bytesR.set HO.out _ (by simp)) _ (by simp)) (by omega), fun b => Iff.rfl⟩
  · have HC : Hid (R = ⟨ef, []⟩) := H1.out hc
    have hc' : (ef != 0) = true := by simp [hc]
    obtain ⟨rf, rz⟩ := hrf
    clear H0 H1 HP hc
    go_wp2
    refine bodyPost_ret (v := .agg #[.int .i64 ef, .slice none 0 0]) (by simp [results, Tryz.results13, go_sem, r0, r1, rf]) rfl ⟨_, none_, rfl, ?_, by (repeat (first | exact Below.refl _ _ | assumption | refine Below.drew ?_ | refine balloc ?_ _ | refine bset ?_ (by simp; omega) _ | refine bset ?_ (by simp) _ | refine bstep ?_ (by assumption)))⟩
    rw [HC.out]
    exact bytesR_none _ _ _
end Go.Proofs.YtecfelacdapdgaaGreat

/-
  What is handed in, read as data, is data in memory: rows and structs of rows.
-/
namespace Go.Proofs.YtecfelacdapdgaaGreat
open Go.ChangeShapes Go.WideShapes Go.ChangeAt Go.RowKit Go.Joins

theorem spot_none {W : World} {base k : Nat} {a : Addr} {cs : List Value} (hk : 0 < k) (hc : W.cells? base a k = some cs) : a.spot = none := by
  obtain ⟨hb, hl, hcell⟩ := World.cells?_some hc
  have q0 := hcell 0 hk
  obtain ⟨b, o, s⟩ := a
  cases s with
  | none => rfl
  | some s =>
    have : 0 < cs.length := by omega
    simp [Addr.add, World.cell?, this] at q0
    split at q0 <;> simp at q0
theorem add_plain (b o i : Nat) : (Addr.mk b o none).add i = ⟨b, o + i, none⟩ := by
  by_cases h : i = 0
  · subst h; simp [Addr.add]
  · simp [Addr.add, h]
theorem openRow {H : Type} {enc : TypeId × Value → H} {W : World} {sp : Nat → Bool} {held : Bool} {n : Nat} {v : Value} {y : DataW H × List MemPlace} {t e size : Nat} {α : Type} [Inhabited α] {q : List Value → α → Prop}
    (ht : Tryz.prog.underlying t = some (.slice e)) (hz : Tryz.prog.cellsOf e = size) (hs : 0 < size)
    (hq : ∀ n cs y, DataW.trod enc Tryz.prog W 0 sp held n e cs = some y → cs.length = size → ∃ x, q cs x) (h : DataW.trod enc Tryz.prog W 0 sp held n t [v] = some y) :
    ∃ (a : Option Addr) (cap : Nat) (xs : List α) (cs : Nat → List Value), v = .slice a xs.length cap ∧ xs.length ≤ cap ∧ cap ≤ maxLen ∧ ∀ i, i < xs.length → q (cs i) (xs.getD i default) ∧ (cs i).length = size ∧ ∃ b o, a = some ⟨b, o, none⟩ ∧ ∀ j, j < size → W.cell? ⟨b, o + i * size + j, none⟩ = (cs i)[j]? := by
  rcases Go.Deep.open_slice ht h with ⟨hcs, _⟩ | ⟨a, len, cap, m, n', D, Pl, hcs, hb, hl, hm, hmm, _, hc⟩
  · simp at hcs
    subst hcs
    exact ⟨none, 0, [], fun _ => [], rfl, by simp, by unfold maxLen; omega, fun i hi => by simp at hi⟩
  · simp at hcs
    subst hcs
    have hlm : len ≤ m := by rw [hmm]; split <;> omega
    rw [hz] at hc
    have h1 : ∀ i, i < len → ∃ z : List Value × α, q z.1 z.2 ∧ z.1.length = size ∧ ∃ b o, a = ⟨b, o, none⟩ ∧ ∀ j, j < size → W.cell? ⟨b, o + i * size + j, none⟩ = z.1[j]? := by
      intro i hi
      obtain ⟨cs', h1, h2⟩ := hc i (by omega)
      obtain ⟨_, hl', hcell⟩ := World.cells?_some h1
      obtain ⟨x, hx⟩ := hq _ _ _ h2 hl'
      obtain ⟨cs0, k1, _⟩ := hc 0 (by omega)
      have hsp := spot_none hs k1
      obtain ⟨b, o, s⟩ := a
      have hs0 : s = none := by simpa [Addr.add] using hsp
      subst hs0
      refine ⟨(cs', x), hx, hl', b, o, rfl, fun j hj => ?_⟩
      have := hcell j hj
      rw [add_plain, add_plain] at this
      exact this
    obtain ⟨f, hf⟩ := Go.Deep.choose_lt h1
    refine ⟨some a, cap, (List.range len).map (fun i => (f i).2), fun i => (f i).1, by simp, by simpa using hl, hm, fun i hi => ?_⟩
    simp at hi
    obtain ⟨g1, g2, b, o, rfl, g3⟩ := hf i hi
    have e : (List.map (fun i => (f i).2) (List.range len)).getD i default = (f i).2 := by simp [List.getD, hi]
    rw [e]
    exact ⟨g1, g2, b, o, rfl, g3⟩
end Go.Proofs.YtecfelacdapdgaaGreat

