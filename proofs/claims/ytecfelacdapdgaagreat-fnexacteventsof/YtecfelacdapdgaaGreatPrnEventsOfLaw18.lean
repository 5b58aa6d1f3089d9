import Derived.Test.YtecfelacdapdgaaGreatPrnEventsOfLaw14
import Derived.Test.YtecfelacdapdgaaGreatPrnEventsOfLaw17
import Derived.Test.YtecfelacdapdgaaGreatPrnEventsOfLaw2
import Derived.Test.YtecfelacdapdgaaGreatPrnEventsOfLaw3
import Derived.Deep.RegionHeld3
import Derived.Deep.DrawnRows
import Derived.Test.YtecfelacdapdgaaGreatPrnEventsOfLaw16
import Derived.Test.YtecfelacdapdgaaGreatPrnEventsOfLaw15
import Derived.RegionTactic
import Derived.ChangeAlike
import Derived.BigRegion
import Derived.BigQuiet
import Derived.Deep.QuietTactic
import Derived.Test.YtecfelacdapdgaaGreatPrnEventsOfLaw7
import Derived.Test.YtecfelacdapdgaaGreatPrnEventsOfLaw9
import Derived.WideKeyEntry
import Derived.Test.YtecfelacdapdgaaGreatPrnEventsOfLaw6
import Derived.Shelf.Abstract
import Derived.Test.YtecfelacdapdgaaGreatPrnEventsOfLaw12

/-
  Shard. (Written by program: nest.py.)
-/
namespace Go.Proofs.YtecfelacdapdgaaGreat
open Go.RowKit
set_option linter.unusedSectionVars false
variable [DecidableEq Bal] [Inhabited Bal] [DecidableEq Mrk] [Inhabited Mrk] [DecidableEq Leg] [Inhabited Leg] [DecidableEq Cont] [Inhabited Cont]
attribute [local go_sem ↓] Go.wp_at_zero Go.wp_at_succ

set_option linter.unusedSimpArgs false

structure Shd where
  idx : Int
  bals : List Bal
  votes : List Mrk
  held : List Cont
  done : List Mrk
  appl : List Int
variable [DecidableEq Shd] [Inhabited Shd]

end Go.Proofs.YtecfelacdapdgaaGreat

/-
  ShardResult. (Written by program: nest.py.)
-/
namespace Go.Proofs.YtecfelacdapdgaaGreat
open Go.RowKit
set_option linter.unusedSectionVars false
variable [DecidableEq Bal] [Inhabited Bal] [DecidableEq Mrk] [Inhabited Mrk] [DecidableEq Leg] [Inhabited Leg] [DecidableEq Cont] [Inhabited Cont] [DecidableEq Shd] [Inhabited Shd]
attribute [local go_sem ↓] Go.wp_at_zero Go.wp_at_succ

set_option linter.unusedSimpArgs false

structure ShdR where
  code : Int
  vote : Int
  shard : Shd
variable [DecidableEq ShdR] [Inhabited ShdR]

end Go.Proofs.YtecfelacdapdgaaGreat

/-
  What is asked of marks, the program's.
-/
set_option linter.unusedSimpArgs false
set_option linter.unusedVariables false
namespace Go.Proofs.YtecfelacdapdgaaGreat
open Go.RowKit
set_option linter.unusedSectionVars false
variable [DecidableEq Rw] [Inhabited Rw] [DecidableEq Bal] [Inhabited Bal] [DecidableEq Ledg] [Inhabited Ledg] [DecidableEq Leg] [Inhabited Leg] [DecidableEq Cont] [Inhabited Cont] [DecidableEq LedgR] [Inhabited LedgR] [DecidableEq OutcR] [Inhabited OutcR] [DecidableEq Mrk] [Inhabited Mrk] [DecidableEq Shd] [Inhabited Shd] [DecidableEq ShdR] [Inhabited ShdR]
attribute [local go_sem ↓] Go.wp_at_zero Go.wp_at_succ

theorem isOutcomeH_any (n : Int) (w : World) : Calls Tryz.prog 97 #[.int .i64 n] w fun e w' => e = .returned (.bool (inB n 1 2)) ∧ w' = w := by
  go_enter Tryz.func97, Tryz.ntmps97
  go_wp2_with (go_at_call 116; refine (within_any _ _ _ _).mono ?_; rintro e w' ⟨rfl, rfl⟩)
  go_ret
  exact ⟨rfl, rfl⟩
end Go.Proofs.YtecfelacdapdgaaGreat

/-
  EventFault, the program's.
-/
set_option linter.unusedSimpArgs false
set_option linter.unusedVariables false
namespace Go.Proofs.YtecfelacdapdgaaGreat
open Go.RowKit
set_option linter.unusedSectionVars false
variable [DecidableEq Leg] [Inhabited Leg] [DecidableEq Cont] [Inhabited Cont] [DecidableEq Evt] [Inhabited Evt] [DecidableEq EvtR] [Inhabited EvtR] [DecidableEq BytesR] [Inhabited BytesR] [DecidableEq ContR] [Inhabited ContR] [DecidableEq Logg] [Inhabited Logg] [DecidableEq LoggR] [Inhabited LoggR] [DecidableEq RecsR] [Inhabited RecsR] [DecidableEq Rw] [Inhabited Rw] [DecidableEq Bal] [Inhabited Bal] [DecidableEq Ledg] [Inhabited Ledg] [DecidableEq LedgR] [Inhabited LedgR] [DecidableEq OutcR] [Inhabited OutcR] [DecidableEq Mrk] [Inhabited Mrk] [DecidableEq Shd] [Inhabited Shd] [DecidableEq ShdR] [Inhabited ShdR]
attribute [local go_sem ↓] Go.wp_at_zero Go.wp_at_succ

theorem store_fn14 {P : Program} {w : World} {a : Addr} {m : Mode} (fn : Fn) (first captured : Array Value) : (store a (.func fn first captured) m).run P w = stored P w a (.func fn first captured) m := run_store P w a _ m rfl
attribute [local go_sem] store_fn14
theorem kindField0 (f g h : Nat) (w : World) : (Instr.field 82 (.agg #[.func (.func f) #[] #[], .func (.func g) #[] #[], .func (.func h) #[] #[]]) 0).run Tryz.prog w = .ok (.func (.func f) #[] #[]) w := by kernel_rfl
set_option maxHeartbeats 2000000 in
theorem kindOf_vote (x : Value) (d : Evt) (w : World) (hx : evtR.V w x d) (hv : d.vote = true) :
    Calls Tryz.prog 40 #[x] w fun e w' => e = .returned (.agg #[.func (.func 66) #[] #[], .func (.func 67) #[] #[], .func (.func 68) #[] #[]]) ∧ Below w.heap.size w w' := by
  obtain ⟨a, c, rfl, hl⟩ := evt_open hx
  rw [hv]
  clear hx hl hv
  go_enter Tryz.func40, Tryz.ntmps40
  go_wp2
  exact bodyPost_ret (v := .agg #[.func (.func 66) #[] #[], .func (.func 67) #[] #[], .func (.func 68) #[] #[]]) (by simp [results, Tryz.results40, go_sem]) rfl ⟨rfl, by (repeat (first | exact Below.refl _ _ | assumption | refine Below.drew ?_ | refine balloc ?_ _ | refine bset ?_ (by simp; omega) _ | refine bset ?_ (by simp) _ | refine bstep ?_ (by assumption)))⟩
set_option maxHeartbeats 2000000 in
theorem kindOf_out (x : Value) (d : Evt) (w : World) (hx : evtR.V w x d) (hv : d.vote = false) :
    Calls Tryz.prog 40 #[x] w fun e w' => e = .returned (.agg #[.func (.func 69) #[] #[], .func (.func 70) #[] #[], .func (.func 71) #[] #[]]) ∧ Below w.heap.size w w' := by
  obtain ⟨a, c, rfl, hl⟩ := evt_open hx
  rw [hv]
  clear hx hl hv
  go_enter Tryz.func40, Tryz.ntmps40
  go_wp2
  exact bodyPost_ret (v := .agg #[.func (.func 69) #[] #[], .func (.func 70) #[] #[], .func (.func 71) #[] #[]]) (by simp [results, Tryz.results40, go_sem]) rfl ⟨rfl, by (repeat (first | exact Below.refl _ _ | assumption | refine Below.drew ?_ | refine balloc ?_ _ | refine bset ?_ (by simp; omega) _ | refine bset ?_ (by simp) _ | refine bstep ?_ (by assumption)))⟩
set_option maxHeartbeats 2000000 in
theorem voteFault_any (x : Value) (d : Evt) (w : World) (hx : evtR.V w x d) (hv : d.vote = true) :
    Calls Tryz.prog 66 #[x] w fun e w' => e = .returned (.int .i64 (evtF d)) ∧ Below w.heap.size w w' := by
  obtain ⟨a, c, rfl, hl⟩ := evt_open hx
  obtain ⟨b, ⟨id, ls⟩, o⟩ := d
  dsimp only at hl hv ⊢
  subst hv
  clear hx
  have HD : Hid (evtF ⟨true, ⟨id, ls⟩, o⟩ = if contractFault id ls = 0 then (if o = 0 then 0 else 1) else contractFault id ls) := rfl
  have HC : Hid (∀ W, Below w.heap.size w W → Calls Tryz.prog 91 #[.agg #[.int .i64 id, .slice a ls.length c]] W fun e w' => e = .returned (.int .i64 (contractFault id ls)) ∧ Below W.heap.size W w') := fun W hW => implFault_any id _ ls W (LegsV_below hl hW)
  generalize evtF ⟨true, ⟨id, ls⟩, o⟩ = R at *
  clear hl
  generalize contractFault id ls = cf at *
  generalize ls.length = n at *
  go_enter Tryz.func66, Tryz.ntmps66
  go_wp2_with fail
  refine (HC.out _ (by (repeat (first | exact Below.refl _ _ | assumption | refine Below.drew ?_ | refine balloc ?_ _ | refine bset ?_ (by simp; omega) _ | refine bset ?_ (by simp) _ | refine bstep ?_ (by assumption))))).mono ?_
  rintro e w1 ⟨rfl, hb1⟩
  have hB1 : Below w.heap.size w w1 := by (repeat (first | exact Below.refl _ _ | assumption | refine Below.drew ?_ | refine balloc ?_ _ | refine bset ?_ (by simp; omega) _ | refine bset ?_ (by simp) _ | refine bstep ?_ (by assumption)))
  have y3 : w1.cell? ⟨w.heap.size, 3, none⟩ = some (.int .i64 o) := cell_keep hb1 (by simp [go_sem])
  clear hb1 HC
  by_cases hc : cf = 0
  · rw [hc] at HD ⊢
    by_cases ho : o = 0
    · have HE : Hid (R = 0) := by show _ = _; rw [HD.out, ho]; rfl
      have ho' : (o != 0) = false := by simp [ho]
      clear HD ho hc
      go_wp2
      go_ret
      exact ⟨by rw [HE.out]; rfl, by (repeat (first | exact Below.refl _ _ | assumption | refine Below.drew ?_ | refine balloc ?_ _ | refine bset ?_ (by simp; omega) _ | refine bset ?_ (by simp) _ | refine bstep ?_ (by assumption)))⟩
    · have HE : Hid (R = 1) := by show _ = _; rw [HD.out, if_neg ho]; rfl
      have ho' : (o != 0) = true := by simp [ho]
      clear HD ho hc
      go_wp2
      go_ret
      exact ⟨by rw [HE.out]; rfl, by (repeat (first | exact Below.refl _ _ | assumption | refine Below.drew ?_ | refine balloc ?_ _ | refine bset ?_ (by simp; omega) _ | refine bset ?_ (by simp) _ | refine bstep ?_ (by assumption)))⟩
  · have HE : Hid (R = cf) := by show _ = _; rw [HD.out, if_neg hc]
    have hc' : (cf != 0) = true := by simp [hc]
    clear HD hc
    go_wp2
    go_ret
    exact ⟨by rw [HE.out]; rfl, by (repeat (first | exact Below.refl _ _ | assumption | refine Below.drew ?_ | refine balloc ?_ _ | refine bset ?_ (by simp; omega) _ | refine bset ?_ (by simp) _ | refine bstep ?_ (by assumption)))⟩
set_option maxHeartbeats 2000000 in
theorem outcomeFault_any (x : Value) (d : Evt) (w : World) (hx : evtR.V w x d) (hv : d.vote = false) :
    Calls Tryz.prog 69 #[x] w fun e w' => e = .returned (.int .i64 (evtF d)) ∧ Below w.heap.size w w' := by
  obtain ⟨a, c, rfl, hl⟩ := evt_open hx
  obtain ⟨b, ⟨id, ls⟩, o⟩ := d
  dsimp only at hl hv ⊢
  subst hv
  clear hx
  have HD : Hid (evtF ⟨false, ⟨id, ls⟩, o⟩ = if (inB id 1 1000000000 && inB o 1 2) = true then (if ls.length = 0 then 0 else 1) else 3) := rfl
  generalize evtF ⟨false, ⟨id, ls⟩, o⟩ = R at *
  generalize ls.length = n at *
  clear hl
  cases hk : inB id 1 1000000000
  · rw [hk] at HD
    go_enter Tryz.func69, Tryz.ntmps69
    go_wp2_with (first | (go_at_call 96; refine (isId_any _ _).mono ?_; rintro e w' ⟨rfl, hw⟩; obtain rfl := hw.symm; rw [hk]))
    go_ret
    exact ⟨by rw [HD.out]; rfl, by (repeat (first | exact Below.refl _ _ | assumption | refine Below.drew ?_ | refine balloc ?_ _ | refine bset ?_ (by simp; omega) _ | refine bset ?_ (by simp) _ | refine bstep ?_ (by assumption)))⟩
  · cases ho : inB o 1 2
    · rw [hk, ho] at HD
      go_enter Tryz.func69, Tryz.ntmps69
      go_wp2_with (first | (go_at_call 96; refine (isId_any _ _).mono ?_; rintro e w' ⟨rfl, hw⟩; obtain rfl := hw.symm; rw [hk]) | (go_at_call 97; refine (isOutcomeH_any _ _).mono ?_; rintro e w' ⟨rfl, hw⟩; obtain rfl := hw.symm; rw [ho]))
      go_ret
      exact ⟨by rw [HD.out]; rfl, by (repeat (first | exact Below.refl _ _ | assumption | refine Below.drew ?_ | refine balloc ?_ _ | refine bset ?_ (by simp; omega) _ | refine bset ?_ (by simp) _ | refine bstep ?_ (by assumption)))⟩
    · rw [hk, ho] at HD
      by_cases hn : n = 0
      · have HE : Hid (R = 0) := by show _ = _; rw [HD.out, hn]; rfl
        have hn' : ¬ (0 : Int) < (n : Int) := by omega
        clear HD hn
        go_enter Tryz.func69, Tryz.ntmps69
        go_wp2_with (first | (go_at_call 96; refine (isId_any _ _).mono ?_; rintro e w' ⟨rfl, hw⟩; obtain rfl := hw.symm; rw [hk]) | (go_at_call 97; refine (isOutcomeH_any _ _).mono ?_; rintro e w' ⟨rfl, hw⟩; obtain rfl := hw.symm; rw [ho]))
        go_ret
        exact ⟨by rw [HE.out]; rfl, by (repeat (first | exact Below.refl _ _ | assumption | refine Below.drew ?_ | refine balloc ?_ _ | refine bset ?_ (by simp; omega) _ | refine bset ?_ (by simp) _ | refine bstep ?_ (by assumption)))⟩
      · have HE : Hid (R = 1) := by show _ = _; rw [HD.out, if_neg hn]; rfl
        have hn' : (0 : Int) < (n : Int) := by omega
        clear HD hn
        go_enter Tryz.func69, Tryz.ntmps69
        go_wp2_with (first | (go_at_call 96; refine (isId_any _ _).mono ?_; rintro e w' ⟨rfl, hw⟩; obtain rfl := hw.symm; rw [hk]) | (go_at_call 97; refine (isOutcomeH_any _ _).mono ?_; rintro e w' ⟨rfl, hw⟩; obtain rfl := hw.symm; rw [ho]))
        go_ret
        exact ⟨by rw [HE.out]; rfl, by (repeat (first | exact Below.refl _ _ | assumption | refine Below.drew ?_ | refine balloc ?_ _ | refine bset ?_ (by simp; omega) _ | refine bset ?_ (by simp) _ | refine bstep ?_ (by assumption)))⟩
set_option maxHeartbeats 2000000 in
theorem implEvF_any (x : Value) (d : Evt) (w : World) (hx : evtR.V w x d) :
    Calls Tryz.prog 10 #[x] w fun e w' => e = .returned (.int .i64 (evtF d)) ∧ Below w.heap.size w w' := by
  have HX : Hid (∀ W, Below w.heap.size w W → evtR.V W x d) := fun W hW => evtR.below hx hW
  obtain ⟨a, c, rfl, hl⟩ := evt_open hx
  clear hx hl
  generalize d.con.legs.length = n at *
  cases hv : d.vote
  · have HK : Hid (∀ W, Below w.heap.size w W → Calls Tryz.prog 40 #[.agg #[.bool false, .int .i64 d.con.id, .slice a n c, .int .i64 d.out]] W fun e w' => e = .returned (.agg #[.func (.func 69) #[] #[], .func (.func 70) #[] #[], .func (.func 71) #[] #[]]) ∧ Below W.heap.size W w') := fun W hW => by have h := kindOf_out _ d W (HX.out W hW) hv; rw [hv] at h; exact h
    have HE : Hid (∀ W, Below w.heap.size w W → Calls Tryz.prog 69 #[.agg #[.bool false, .int .i64 d.con.id, .slice a n c, .int .i64 d.out]] W fun e w' => e = .returned (.int .i64 (evtF d)) ∧ Below W.heap.size W w') := fun W hW => by have h := outcomeFault_any _ d W (HX.out W hW) hv; rw [hv] at h; exact h
    have hfd := kindField0
    have eg := enters_of Tryz.func69 (by kernel_rfl) rfl
    generalize evtF d = R at *
    clear HX hv
    go_enter Tryz.func10, Tryz.ntmps10
    go_wp2
    refine wp_region_noPanic ?_
    refine region_upto (fun W => Below w.heap.size w W ∧ W.cell? ⟨w.heap.size, 0, none⟩ = some (.bool false) ∧ W.cell? ⟨w.heap.size, 1, none⟩ = some (.int .i64 d.con.id) ∧ W.cell? ⟨w.heap.size, 2, none⟩ = some (.slice a n c) ∧ W.cell? ⟨w.heap.size, 3, none⟩ = some (.int .i64 d.out)) 5 (by kernel_rfl) ⟨by (repeat (first | exact Below.refl _ _ | assumption | refine Below.drew ?_ | refine balloc ?_ _ | refine bset ?_ (by simp; omega) _ | refine bset ?_ (by simp) _ | refine bstep ?_ (by assumption))), by simp [go_sem], by simp [go_sem], by simp [go_sem], by simp [go_sem]⟩ (fun hS => ?_)
    refine upto_take (i := 0) (v := ?_) rfl (by kernel_rfl) (by kernel_rfl) (by kernel_rfl) (by kernel_rfl) (fun _ _ _ h => h) (by rfl) hS ?_ ?_
    rotate_left
    · intro wS hSw
      try dsimp only at hSw
      first | (go_simp; done) | (go_simp; with_reducible rfl)
    try simp only [Act.put, List.getElem_toArray, List.getElem_cons_zero, List.getElem_cons_succ, List.setIfInBounds_toArray, List.set_cons_zero, List.set_cons_succ]
    refine upto_take (i := 3) (v := ?_) rfl (by kernel_rfl) (by kernel_rfl) (by kernel_rfl) (by kernel_rfl) (fun _ _ _ h => h) (by rfl) hS ?_ ?_
    rotate_left
    · intro wS hSw
      try dsimp only at hSw
      first | (go_simp; done) | (go_simp; with_reducible rfl)
    try simp only [Act.put, List.getElem_toArray, List.getElem_cons_zero, List.getElem_cons_succ, List.setIfInBounds_toArray, List.set_cons_zero, List.set_cons_succ]
    refine upto_step (i := 1) (by kernel_rfl) rfl ?_
    intro K hK
    go_simp
    refine (HK.out _ hS.1).mono ?_
    rintro e w2 ⟨rfl, hb2⟩
    have hS2 := And.intro (bstep hS.1 hb2) (And.intro (cell_keep hb2 hS.2.1) (And.intro (cell_keep hb2 hS.2.2.1) (And.intro (cell_keep hb2 hS.2.2.2.1) (cell_keep hb2 hS.2.2.2.2))))
    refine hK _ _ (fun _ => hS2) ?_
    clear hK K hb2 HK hS
    try simp only [Act.put, List.getElem_toArray, List.getElem_cons_zero, List.getElem_cons_succ, List.setIfInBounds_toArray, List.set_cons_zero, List.set_cons_succ]
    refine upto_take (i := 2) (v := ?_) rfl (by kernel_rfl) (by kernel_rfl) (by kernel_rfl) (by kernel_rfl) (fun _ _ _ h => h) (by rfl) hS2 ?_ ?_
    rotate_left
    · intro wS hSw
      try dsimp only at hSw
      first | (go_simp; done) | (go_simp; with_reducible rfl)
    try simp only [Act.put, List.getElem_toArray, List.getElem_cons_zero, List.getElem_cons_succ, List.setIfInBounds_toArray, List.set_cons_zero, List.set_cons_succ]
    refine upto_step (i := 4) (by kernel_rfl) rfl ?_
    intro K hK
    go_simp
    refine (HE.out _ hS2.1).mono ?_
    rintro e w3 ⟨rfl, hb3⟩
    have hB3 : Below w.heap.size w w3 := bstep hS2.1 hb3
    have hS3 := And.intro (bstep hS2.1 hb3) (And.intro (cell_keep hb3 hS2.2.1) (And.intro (cell_keep hb3 hS2.2.2.1) (And.intro (cell_keep hb3 hS2.2.2.2.1) (cell_keep hb3 hS2.2.2.2.2))))
    refine hK _ _ (fun _ => hS3) ?_
    clear hK K hb3 HE hS2
    try simp only [Act.put, List.getElem_toArray, List.getElem_cons_zero, List.getElem_cons_succ, List.setIfInBounds_toArray, List.set_cons_zero, List.set_cons_succ]
    refine upto_step (i := 5) (by kernel_rfl) rfl ?_
    intro K hK
    go_simp
    refine hK _ _ (fun h => absurd rfl h) ?_
    clear hK K hS3
    refine upto_done (by kernel_rfl) ?_
    refine NoPanic.normal ?_
    go_wp2
    go_ret
    exact ⟨rfl, hB3⟩
  · have HK : Hid (∀ W, Below w.heap.size w W → Calls Tryz.prog 40 #[.agg #[.bool true, .int .i64 d.con.id, .slice a n c, .int .i64 d.out]] W fun e w' => e = .returned (.agg #[.func (.func 66) #[] #[], .func (.func 67) #[] #[], .func (.func 68) #[] #[]]) ∧ Below W.heap.size W w') := fun W hW => by have h := kindOf_vote _ d W (HX.out W hW) hv; rw [hv] at h; exact h
    have HE : Hid (∀ W, Below w.heap.size w W → Calls Tryz.prog 66 #[.agg #[.bool true, .int .i64 d.con.id, .slice a n c, .int .i64 d.out]] W fun e w' => e = .returned (.int .i64 (evtF d)) ∧ Below W.heap.size W w') := fun W hW => by have h := voteFault_any _ d W (HX.out W hW) hv; rw [hv] at h; exact h
    have hfd := kindField0
    have eg := enters_of Tryz.func66 (by kernel_rfl) rfl
    generalize evtF d = R at *
    clear HX hv
    go_enter Tryz.func10, Tryz.ntmps10
    go_wp2
    refine wp_region_noPanic ?_
    refine region_upto (fun W => Below w.heap.size w W ∧ W.cell? ⟨w.heap.size, 0, none⟩ = some (.bool true) ∧ W.cell? ⟨w.heap.size, 1, none⟩ = some (.int .i64 d.con.id) ∧ W.cell? ⟨w.heap.size, 2, none⟩ = some (.slice a n c) ∧ W.cell? ⟨w.heap.size, 3, none⟩ = some (.int .i64 d.out)) 5 (by kernel_rfl) ⟨by (repeat (first | exact Below.refl _ _ | assumption | refine Below.drew ?_ | refine balloc ?_ _ | refine bset ?_ (by simp; omega) _ | refine bset ?_ (by simp) _ | refine bstep ?_ (by assumption))), by simp [go_sem], by simp [go_sem], by simp [go_sem], by simp [go_sem]⟩ (fun hS => ?_)
    refine upto_take (i := 0) (v := ?_) rfl (by kernel_rfl) (by kernel_rfl) (by kernel_rfl) (by kernel_rfl) (fun _ _ _ h => h) (by rfl) hS ?_ ?_
    rotate_left
    · intro wS hSw
      try dsimp only at hSw
      first | (go_simp; done) | (go_simp; with_reducible rfl)
    try simp only [Act.put, List.getElem_toArray, List.getElem_cons_zero, List.getElem_cons_succ, List.setIfInBounds_toArray, List.set_cons_zero, List.set_cons_succ]
    refine upto_take (i := 3) (v := ?_) rfl (by kernel_rfl) (by kernel_rfl) (by kernel_rfl) (by kernel_rfl) (fun _ _ _ h => h) (by rfl) hS ?_ ?_
    rotate_left
    · intro wS hSw
      try dsimp only at hSw
      first | (go_simp; done) | (go_simp; with_reducible rfl)
    try simp only [Act.put, List.getElem_toArray, List.getElem_cons_zero, List.getElem_cons_succ, List.setIfInBounds_toArray, List.set_cons_zero, List.set_cons_succ]
    refine upto_step (i := 1) (by kernel_rfl) rfl ?_
    intro K hK
    go_simp
    refine (HK.out _ hS.1).mono ?_
    rintro e w2 ⟨rfl, hb2⟩
    have hS2 := And.intro (bstep hS.1 hb2) (And.intro (cell_keep hb2 hS.2.1) (And.intro (cell_keep hb2 hS.2.2.1) (And.intro (cell_keep hb2 hS.2.2.2.1) (cell_keep hb2 hS.2.2.2.2))))
    refine hK _ _ (fun _ => hS2) ?_
    clear hK K hb2 HK hS
    try simp only [Act.put, List.getElem_toArray, List.getElem_cons_zero, List.getElem_cons_succ, List.setIfInBounds_toArray, List.set_cons_zero, List.set_cons_succ]
    refine upto_take (i := 2) (v := ?_) rfl (by kernel_rfl) (by kernel_rfl) (by kernel_rfl) (by kernel_rfl) (fun _ _ _ h => h) (by rfl) hS2 ?_ ?_
    rotate_left
    · intro wS hSw
      try dsimp only at hSw
      first | (go_simp; done) | (go_simp; with_reducible rfl)
    try simp only [Act.put, List.getElem_toArray, List.getElem_cons_zero, List.getElem_cons_succ, List.setIfInBounds_toArray, List.set_cons_zero, List.set_cons_succ]
    refine upto_step (i := 4) (by kernel_rfl) rfl ?_
    intro K hK
    go_simp
    refine (HE.out _ hS2.1).mono ?_
    rintro e w3 ⟨rfl, hb3⟩
    have hB3 : Below w.heap.size w w3 := bstep hS2.1 hb3
    have hS3 := And.intro (bstep hS2.1 hb3) (And.intro (cell_keep hb3 hS2.2.1) (And.intro (cell_keep hb3 hS2.2.2.1) (And.intro (cell_keep hb3 hS2.2.2.2.1) (cell_keep hb3 hS2.2.2.2.2))))
    refine hK _ _ (fun _ => hS3) ?_
    clear hK K hb3 HE hS2
    try simp only [Act.put, List.getElem_toArray, List.getElem_cons_zero, List.getElem_cons_succ, List.setIfInBounds_toArray, List.set_cons_zero, List.set_cons_succ]
    refine upto_step (i := 5) (by kernel_rfl) rfl ?_
    intro K hK
    go_simp
    refine hK _ _ (fun h => absurd rfl h) ?_
    clear hK K hS3
    refine upto_done (by kernel_rfl) ?_
    refine NoPanic.normal ?_
    go_wp2
    go_ret
    exact ⟨rfl, hB3⟩
end Go.Proofs.YtecfelacdapdgaaGreat

