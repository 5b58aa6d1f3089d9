import Derived.Test.YtecfelacdapdgaaGreatPrnUnpackEventLaw13
import Derived.Test.YtecfelacdapdgaaGreatPrnUnpackEventLaw2
import Derived.Test.YtecfelacdapdgaaGreatPrnUnpackEventLaw12
import Derived.Test.YtecfelacdapdgaaGreatPrnUnpackEventLaw11
import Derived.RegionTactic
import Derived.ChangeAlike
import Derived.BigRegion
import Derived.BigQuiet
import Derived.Deep.QuietTactic
import Derived.Test.YtecfelacdapdgaaGreatPrnUnpackEventLaw5
import Derived.Test.YtecfelacdapdgaaGreatPrnUnpackEventLaw6
import Derived.Test.YtecfelacdapdgaaGreatPrnUnpackEventLaw3
import Derived.Test.YtecfelacdapdgaaGreatPrnUnpackEventLaw7
import Derived.WideKeyEntry
import Derived.Deep.RegionHeld3
import Derived.Shelf.Abstract
import Derived.Test.YtecfelacdapdgaaGreatPrnUnpackEventLaw10

/-
  ShardResult. (Written by program: nest.py.)
-/
namespace Go.Proofs.YtecfelacdapdgaaGreat
open Go.RowKit
set_option linter.unusedSectionVars false
variable [DecidableEq Bal] [Inhabited Bal] [DecidableEq Mrk] [Inhabited Mrk] [DecidableEq Leg] [Inhabited Leg] [DecidableEq Cont] [Inhabited Cont] [DecidableEq Shd] [Inhabited Shd]
attribute [local go_sem ↓] Go.wp_at_zero Go.wp_at_succ

set_option linter.unusedSimpArgs false

structure ShdR where
  code : Int
  vote : Int
  shard : Shd
variable [DecidableEq ShdR] [Inhabited ShdR]

end Go.Proofs.YtecfelacdapdgaaGreat

/-
  What is asked of marks, the program's.
-/
set_option linter.unusedSimpArgs false
set_option linter.unusedVariables false
namespace Go.Proofs.YtecfelacdapdgaaGreat
open Go.RowKit
set_option linter.unusedSectionVars false
variable [DecidableEq Rw] [Inhabited Rw] [DecidableEq Bal] [Inhabited Bal] [DecidableEq Ledg] [Inhabited Ledg] [DecidableEq Leg] [Inhabited Leg] [DecidableEq Cont] [Inhabited Cont] [DecidableEq LedgR] [Inhabited LedgR] [DecidableEq OutcR] [Inhabited OutcR] [DecidableEq Mrk] [Inhabited Mrk] [DecidableEq Shd] [Inhabited Shd] [DecidableEq ShdR] [Inhabited ShdR]
attribute [local go_sem ↓] Go.wp_at_zero Go.wp_at_succ

theorem isOutcomeH_any (n : Int) (w : World) : Calls Tryz.prog 97 #[.int .i64 n] w fun e w' => e = .returned (.bool (inB n 1 2)) ∧ w' = w := by
  go_enter Tryz.func97, Tryz.ntmps97
  go_wp2_with (go_at_call 116; refine (within_any _ _ _ _).mono ?_; rintro e w' ⟨rfl, rfl⟩)
  go_ret
  exact ⟨rfl, rfl⟩
end Go.Proofs.YtecfelacdapdgaaGreat

/-
  EventFault, the program's.
-/
set_option linter.unusedSimpArgs false
set_option linter.unusedVariables false
namespace Go.Proofs.YtecfelacdapdgaaGreat
open Go.RowKit
set_option linter.unusedSectionVars false
variable [DecidableEq Leg] [Inhabited Leg] [DecidableEq Cont] [Inhabited Cont] [DecidableEq Evt] [Inhabited Evt] [DecidableEq EvtR] [Inhabited EvtR] [DecidableEq BytesR] [Inhabited BytesR] [DecidableEq ContR] [Inhabited ContR] [DecidableEq Logg] [Inhabited Logg] [DecidableEq LoggR] [Inhabited LoggR] [DecidableEq RecsR] [Inhabited RecsR] [DecidableEq Rw] [Inhabited Rw] [DecidableEq Bal] [Inhabited Bal] [DecidableEq Ledg] [Inhabited Ledg] [DecidableEq LedgR] [Inhabited LedgR] [DecidableEq OutcR] [Inhabited OutcR] [DecidableEq Mrk] [Inhabited Mrk] [DecidableEq Shd] [Inhabited Shd] [DecidableEq ShdR] [Inhabited ShdR]
attribute [local go_sem ↓] Go.wp_at_zero Go.wp_at_succ

theorem store_fn14 {P : Program} {w : World} {a : Addr} {m : Mode} (fn : Fn) (first captured : Array Value) : (store a (.func fn first captured) m).run P w = stored P w a (.func fn first captured) m := run_store P w a _ m rfl
attribute [local go_sem] store_fn14
theorem kindField0 (f g h : Nat) (w : World) : (Instr.field 82 (.agg #[.func (.func f) #[] #[], .func (.func g) #[] #[], .func (.func h) #[] #[]]) 0).run Tryz.prog w = .ok (.func (.func f) #[] #[]) w := by kernel_rfl
set_option maxHeartbeats 2000000 in
theorem kindOf_vote (x : Value) (d : Evt) (w : World) (hx : evtR.V w x d) (hv : d.vote = true) :
    Calls Tryz.prog 40 #[x] w fun e w' => e = .returned (.agg #[.func (.func 66) #[] #[], .func (.func 67) #[] #[], .func (.func 68) #[] #[]]) ∧ Below w.heap.size w w' := by
  obtain ⟨a, c, rfl, hl⟩ := evt_open hx
  rw [hv]
  clear hx hl hv
  go_enter Tryz.func40, Tryz.ntmps40
  go_wp2
  exact bodyPost_ret (v := .agg #[.func (.func 66) #[] #[], .func (.func 67) #[] #[], .func (.func 68) #[] #[]]) (by simp [results, Tryz.results40, go_sem]) rfl ⟨rfl, by (repeat (first | exact Below.refl _ _ | assumption | refine Below.drew ?_ | refine balloc ?_ _ | refine bset ?_ (by simp; omega) _ | refine bset ?_ (by simp) _ | refine bstep ?_ (by assumption)))⟩
set_option maxHeartbeats 2000000 in
theorem kindOf_out (x : Value) (d : Evt) (w : World) (hx : evtR.V w x d) (hv : d.vote = false) :
    Calls Tryz.prog 40 #[x] w fun e w' => e = .returned (.agg #[.func (.func 69) #[] #[], .func (.func 70) #[] #[], .func (.func 71) #[] #[]]) ∧ Below w.heap.size w w' := by
  obtain ⟨a, c, rfl, hl⟩ := evt_open hx
  rw [hv]
  clear hx hl hv
  go_enter Tryz.func40, Tryz.ntmps40
  go_wp2
  exact bodyPost_ret (v := .agg #[.func (.func 69) #[] #[], .func (.func 70) #[] #[], .func (.func 71) #[] #[]]) (by simp [results, Tryz.results40, go_sem]) rfl ⟨rfl, by (repeat (first | exact Below.refl _ _ | assumption | refine Below.drew ?_ | refine balloc ?_ _ | refine bset ?_ (by simp; omega) _ | refine bset ?_ (by simp) _ | refine bstep ?_ (by assumption)))⟩
set_option maxHeartbeats 2000000 in
theorem voteFault_any (x : Value) (d : Evt) (w : World) (hx : evtR.V w x d) (hv : d.vote = true) :
    Calls Tryz.prog 66 #[x] w fun e w' => e = .returned (.int .i64 (evtF d)) ∧ Below w.heap.size w w' := by
  obtain ⟨a, c, rfl, hl⟩ := evt_open hx
  obtain ⟨b, ⟨id, ls⟩, o⟩ := d
  dsimp only at hl hv ⊢
  subst hv
  clear hx
  have HD : Hid (evtF ⟨true, ⟨id, ls⟩, o⟩ = if contractFault id ls = 0 then (if o = 0 then 0 else 1) else contractFault id ls) := rfl
  have HC : Hid (∀ W, Below w.heap.size w W → Calls Tryz.prog 91 #[.agg #[.int .i64 id, .slice a ls.length c]] W fun e w' => e = .returned (.int .i64 (contractFault id ls)) ∧ Below W.heap.size W w') := fun W hW => implFault_any id _ ls W (LegsV_below hl hW)
  generalize evtF ⟨true, ⟨id, ls⟩, o⟩ = R at *
  clear hl
  generalize contractFault id ls = cf at *
  generalize ls.length = n at *
  go_enter Tryz.func66, Tryz.ntmps66
  go_wp2_with fail
  refine (HC.out _ (by (repeat (first | exact Below.refl _ _ | assumption | refine Below.drew ?_ | refine balloc ?_ _ | refine bset ?_ (by simp; omega) _ | refine bset ?_ (by simp) _ | refine bstep ?_ (by assumption))))).mono ?_
  rintro e w1 ⟨rfl, hb1⟩
  have hB1 : Below w.heap.size w w1 := by (repeat (first | exact Below.refl _ _ | assumption | refine Below.drew ?_ | refine balloc ?_ _ | refine bset ?_ (by simp; omega) _ | refine bset ?_ (by simp) _ | refine bstep ?_ (by assumption)))
  have y3 : w1.cell? ⟨w.heap.size, 3, none⟩ = some (.int .i64 o) := cell_keep hb1 (by simp [go_sem])
  clear hb1 HC
  by_cases hc : cf = 0
  · rw [hc] at HD ⊢
    by_cases ho : o = 0
    · have HE : Hid (R = 0) := by show _ = _; rw [HD.out, ho]; rfl
      have ho' : (o != 0) = false := by simp [ho]
      clear HD ho hc
      go_wp2
      go_ret
      exact ⟨by rw [HE.out]; rfl, by (repeat (first | exact Below.refl _ _ | assumption | refine Below.drew ?_ | refine balloc ?_ _ | refine bset ?_ (by simp; omega) _ | refine bset ?_ (by simp) _ | refine bstep ?_ (by assumption)))⟩
    · have HE : Hid (R = 1) := by show _ = _; rw [HD.out, if_neg ho]; rfl
      have ho' : (o != 0) = true := by simp [ho]
      clear HD ho hc
      go_wp2
      go_ret
      exact ⟨by rw [HE.out]; rfl, by (repeat (first | exact Below.refl _ _ | assumption | refine Below.drew ?_ | refine balloc ?_ _ | refine bset ?_ (by simp; omega) _ | refine bset ?_ (by simp) _ | refine bstep ?_ (by assumption)))⟩
  · have HE : Hid (R = cf) := by show _ = _; rw [HD.out, if_neg hc]
    have hc' : (cf != 0) = true := by simp [hc]
    clear HD hc
    go_wp2
    go_ret
    exact ⟨by rw [HE.out]; rfl, by (repeat (first | exact Below.refl _ _ | assumption | refine Below.drew ?_ | refine balloc ?_ _ | refine bset ?_ (by simp; omega) _ | refine bset ?_ (by simp) _ | refine bstep ?_ (by assumption)))⟩
set_option maxHeartbeats 2000000 in
theorem outcomeFault_any (x : Value) (d : Evt) (w : World) (hx : evtR.V w x d) (hv : d.vote = false) :
    Calls Tryz.prog 69 #[x] w fun e w' => e = .returned (.int .i64 (evtF d)) ∧ Below w.heap.size w w' := by
  obtain ⟨a, c, rfl, hl⟩ := evt_open hx
  obtain ⟨b, ⟨id, ls⟩, o⟩ := d
  dsimp only at hl hv ⊢
  subst hv
  clear hx
  have HD : Hid (evtF ⟨false, ⟨id, ls⟩, o⟩ = if (inB id 1 1000000000 && inB o 1 2) = true then (if ls.length = 0 then 0 else 1) else 3) := rfl
  generalize evtF ⟨false, ⟨id, ls⟩, o⟩ = R at *
  generalize ls.length = n at *
  clear hl
  cases hk : inB id 1 1000000000
  · rw [hk] at HD
    go_enter Tryz.func69, Tryz.ntmps69
    go_wp2_with (first | (go_at_call 96; refine (isId_any _ _).mono ?_; rintro e w' ⟨rfl, hw⟩; obtain rfl := hw.symm; rw [hk]))
    go_ret
    exact ⟨by rw [HD.out]; rfl, by (repeat (first | exact Below.refl _ _ | assumption | refine Below.drew ?_ | refine balloc ?_ _ | refine bset ?_ (by simp; omega) _ | refine bset ?_ (by simp) _ | refine bstep ?_ (by assumption)))⟩
  · cases ho : inB o 1 2
    · rw [hk, ho] at HD
      go_enter Tryz.func69, Tryz.ntmps69
      go_wp2_with (first | (go_at_call 96; refine (isId_any _ _).mono ?_; rintro e w' ⟨rfl, hw⟩; obtain rfl := hw.symm; rw [hk]) | (go_at_call 97; refine (isOutcomeH_any _ _).mono ?_; rintro e w' ⟨rfl, hw⟩; obtain rfl := hw.symm; rw [ho]))
      go_ret
      exact ⟨by rw [HD.out]; rfl, by (repeat (first | exact Below.refl _ _ | assumption | refine Below.drew ?_ | refine balloc ?_ _ | refine bset ?_ (by simp; omega) _ | refine bset ?_ (by simp) _ | refine bstep ?_ (by assumption)))⟩
    · rw [hk, ho] at HD
      by_cases hn : n = 0
      · have HE : Hid (R = 0) := by show _ = _; rw [HD.out, hn]; rfl
        have hn' : ¬ (0 : Int) < (n : Int) := by omega
        clear HD hn
        go_enter Tryz.func69, Tryz.ntmps69
        go_wp2_with (first | (go_at_call 96; refine (isId_any _ _).mono ?_; rintro e w' ⟨rfl, hw⟩; obtain rfl := hw.symm; rw [hk]) | (go_at_call 97; refine (isOutcomeH_any _ _).mono ?_; rintro e w' ⟨rfl, hw⟩; obtain rfl := hw.symm; rw [ho]))
        go_ret
        exact ⟨by rw [HE.out]; rfl, by (repeat (first | exact Below.refl _ _ | assumption | refine Below.drew ?_ | refine balloc ?_ _ | refine bset ?_ (by simp; omega) _ | refine bset ?_ (by simp) _ | refine bstep ?_ (by assumption)))⟩
      · have HE : Hid (R = 1) := by show _ = _; rw [HD.out, if_neg hn]; rfl
        have hn' : (0 : Int) < (n : Int) := by omega
        clear HD hn
        go_enter Tryz.func69, Tryz.ntmps69
        go_wp2_with (first | (go_at_call 96; refine (isId_any _ _).mono ?_; rintro e w' ⟨rfl, hw⟩; obtain rfl := hw.symm; rw [hk]) | (go_at_call 97; refine (isOutcomeH_any _ _).mono ?_; rintro e w' ⟨rfl, hw⟩; obtain rfl := hw.symm; rw [ho]))
        go_ret
        exact ⟨by rw [HE.out]; rfl, by (repeat (first | exact Below.refl _ _ | assumption | refine Below.drew ?_ | refine balloc ?_ _ | refine bset ?_ (by simp; omega) _ | refine bset ?_ (by simp) _ | refine bstep ?_ (by assumption)))⟩
set_option maxHeartbeats 2000000 in
theorem implEvF_any (x : Value) (d : Evt) (w : World) (hx : evtR.V w x d) :
    Calls Tryz.prog 10 #[x] w fun e w' => e = .returned (.int .i64 (evtF d)) ∧ Below w.heap.size w w' := by
  have HX : Hid (∀ W, Below w.heap.size w W → evtR.V W x d) := fun W hW => evtR.below hx hW
  obtain ⟨a, c, rfl, hl⟩ := evt_open hx
  clear hx hl
  generalize d.con.legs.length = n at *
  cases hv : d.vote
  · have HK : Hid (∀ W, Below w.heap.size w W → Calls Tryz.prog 40 #[.agg #[.bool false, .int .i64 d.con.id, .slice a n c, .int .i64 d.out]] W fun e w' => e = .returned (.agg #[.func (.func 69) #[] #[], .func (.func 70) #[] #[], .func (.func 71) #[] #[]]) ∧ Below W.heap.size W w') := fun W hW => by have h := kindOf_out _ d W (HX.out W hW) hv; rw [hv] at h; exact h
    have HE : Hid (∀ W, Below w.heap.size w W → Calls Tryz.prog 69 #[.agg #[.bool false, .int .i64 d.con.id, .slice a n c, .int .i64 d.out]] W fun e w' => e = .returned (.int .i64 (evtF d)) ∧ Below W.heap.size W w') := fun W hW => by have h := outcomeFault_any _ d W (HX.out W hW) hv; rw [hv] at h; exact h
    have hfd := kindField0
    have eg := enters_of Tryz.func69 (by kernel_rfl) rfl
    generalize evtF d = R at *
    clear HX hv
    go_enter Tryz.func10, Tryz.ntmps10
    go_wp2
    refine wp_region_noPanic ?_
    refine region_upto (fun W => Below w.heap.size w W ∧ W.cell? ⟨w.heap.size, 0, none⟩ = some (.bool false) ∧ W.cell? ⟨w.heap.size, 1, none⟩ = some (.int .i64 d.con.id) ∧ W.cell? ⟨w.heap.size, 2, none⟩ = some (.slice a n c) ∧ W.cell? ⟨w.heap.size, 3, none⟩ = some (.int .i64 d.out)) 5 (by kernel_rfl) ⟨by (repeat (first | exact Below.refl _ _ | assumption | refine Below.drew ?_ | refine balloc ?_ _ | refine bset ?_ (by simp; omega) _ | refine bset ?_ (by simp) _ | refine bstep ?_ (by assumption))), by simp [go_sem], by simp [go_sem], by simp [go_sem], by simp [go_sem]⟩ (fun hS => ?_)
    refine upto_take (i := 0) (v := ?_) rfl (by kernel_rfl) (by kernel_rfl) (by kernel_rfl) (by kernel_rfl) (fun _ _ _ h => h) (by rfl) hS ?_ ?_
    rotate_left
    · intro wS hSw
      try dsimp only at hSw
      first | (go_simp; done) | (go_simp; with_reducible rfl)
    try simp only [Act.put, List.getElem_toArray, List.getElem_cons_zero, List.getElem_cons_succ, List.setIfInBounds_toArray, List.set_cons_zero, List.set_cons_succ]
    refine upto_take (i := 3) (v := ?_) rfl (by kernel_rfl) (by kernel_rfl) (by kernel_rfl) (by kernel_rfl) (fun _ _ _ h => h) (by rfl) hS ?_ ?_
    rotate_left
    · intro wS hSw
      try dsimp only at hSw
      first | (go_simp; done) | (go_simp; with_reducible rfl)
    try simp only [Act.put, List.getElem_toArray, List.getElem_cons_zero, List.getElem_cons_succ, List.setIfInBounds_toArray, List.set_cons_zero, List.set_cons_succ]
    refine upto_step (i := 1) (by kernel_rfl) rfl ?_
    intro K hK
    go_simp
    refine (HK.out _ hS.1).mono ?_
    rintro e w2 ⟨rfl, hb2⟩
    have hS2 := And.intro (bstep hS.1 hb2) (And.intro (cell_keep hb2 hS.2.1) (And.intro (cell_keep hb2 hS.2.2.1) (And.intro (cell_keep hb2 hS.2.2.2.1) (cell_keep hb2 hS.2.2.2.2))))
    refine hK _ _ (fun _ => hS2) ?_
    clear hK K hb2 HK hS
    try simp only [Act.put, List.getElem_toArray, List.getElem_cons_zero, List.getElem_cons_succ, List.setIfInBounds_toArray, List.set_cons_zero, List.set_cons_succ]
    refine upto_take (i := 2) (v := ?_) rfl (by kernel_rfl) (by kernel_rfl) (by kernel_rfl) (by kernel_rfl) (fun _ _ _ h => h) (by rfl) hS2 ?_ ?_
    rotate_left
    · intro wS hSw
      try dsimp only at hSw
      first | (go_simp; done) | (go_simp; with_reducible rfl)
    try simp only [Act.put, List.getElem_toArray, List.getElem_cons_zero, List.getElem_cons_succ, List.setIfInBounds_toArray, List.set_cons_zero, List.set_cons_succ]
    refine upto_step (i := 4) (by kernel_rfl) rfl ?_
    intro K hK
    go_simp
    refine (HE.out _ hS2.1).mono ?_
    rintro e w3 ⟨rfl, hb3⟩
    have hB3 : Below w.heap.size w w3 := bstep hS2.1 hb3
    have hS3 := And.intro (bstep hS2.1 hb3) (And.intro (cell_keep hb3 hS2.2.1) (And.intro (cell_keep hb3 hS2.2.2.1) (And.intro (cell_keep hb3 hS2.2.2.2.1) (cell_keep hb3 hS2.2.2.2.2))))
    refine hK _ _ (fun _ => hS3) ?_
    clear hK K hb3 HE hS2
    try simp only [Act.put, List.getElem_toArray, List.getElem_cons_zero, List.getElem_cons_succ, List.setIfInBounds_toArray, List.set_cons_zero, List.set_cons_succ]
    refine upto_step (i := 5) (by kernel_rfl) rfl ?_
    intro K hK
    go_simp
    refine hK _ _ (fun h => absurd rfl h) ?_
    clear hK K hS3
    refine upto_done (by kernel_rfl) ?_
    refine NoPanic.normal ?_
    go_wp2
    go_ret
    exact ⟨rfl, hB3⟩
  · have HK : Hid (∀ W, Below w.heap.size w W → Calls Tryz.prog 40 #[.agg #[.bool true, .int .i64 d.con.id, .slice a n c, .int .i64 d.out]] W fun e w' => e = .returned (.agg #[.func (.func 66) #[] #[], .func (.func 67) #[] #[], .func (.func 68) #[] #[]]) ∧ Below W.heap.size W w') := fun W hW => by have h := kindOf_vote _ d W (HX.out W hW) hv; rw [hv] at h; exact h
    have HE : Hid (∀ W, Below w.heap.size w W → Calls Tryz.prog 66 #[.agg #[.bool true, .int .i64 d.con.id, .slice a n c, .int .i64 d.out]] W fun e w' => e = .returned (.int .i64 (evtF d)) ∧ Below W.heap.size W w') := fun W hW => by have h := voteFault_any _ d W (HX.out W hW) hv; rw [hv] at h; exact h
    have hfd := kindField0
    have eg := enters_of Tryz.func66 (by kernel_rfl) rfl
    generalize evtF d = R at *
    clear HX hv
    go_enter Tryz.func10, Tryz.ntmps10
    go_wp2
    refine wp_region_noPanic ?_
    refine region_upto (fun W => Below w.heap.size w W ∧ W.cell? ⟨w.heap.size, 0, none⟩ = some (.bool true) ∧ W.cell? ⟨w.heap.size, 1, none⟩ = some (.int .i64 d.con.id) ∧ W.cell? ⟨w.heap.size, 2, none⟩ = some (.slice a n c) ∧ W.cell? ⟨w.heap.size, 3, none⟩ = some (.int .i64 d.out)) 5 (by kernel_rfl) ⟨by (repeat (first | exact Below.refl _ _ | assumption | refine Below.drew ?_ | refine balloc ?_ _ | refine bset ?_ (by simp; omega) _ | refine bset ?_ (by simp) _ | refine bstep ?_ (by assumption))), by simp [go_sem], by simp [go_sem], by simp [go_sem], by simp [go_sem]⟩ (fun hS => ?_)
    refine upto_take (i := 0) (v := ?_) rfl (by kernel_rfl) (by kernel_rfl) (by kernel_rfl) (by kernel_rfl) (fun _ _ _ h => h) (by rfl) hS ?_ ?_
    rotate_left
    · intro wS hSw
      try dsimp only at hSw
      first | (go_simp; done) | (go_simp; with_reducible rfl)
    try simp only [Act.put, List.getElem_toArray, List.getElem_cons_zero, List.getElem_cons_succ, List.setIfInBounds_toArray, List.set_cons_zero, List.set_cons_succ]
    refine upto_take (i := 3) (v := ?_) rfl (by kernel_rfl) (by kernel_rfl) (by kernel_rfl) (by kernel_rfl) (fun _ _ _ h => h) (by rfl) hS ?_ ?_
    rotate_left
    · intro wS hSw
      try dsimp only at hSw
      first | (go_simp; done) | (go_simp; with_reducible rfl)
    try simp only [Act.put, List.getElem_toArray, List.getElem_cons_zero, List.getElem_cons_succ, List.setIfInBounds_toArray, List.set_cons_zero, List.set_cons_succ]
    refine upto_step (i := 1) (by kernel_rfl) rfl ?_
    intro K hK
    go_simp
    refine (HK.out _ hS.1).mono ?_
    rintro e w2 ⟨rfl, hb2⟩
    have hS2 := And.intro (bstep hS.1 hb2) (And.intro (cell_keep hb2 hS.2.1) (And.intro (cell_keep hb2 hS.2.2.1) (And.intro (cell_keep hb2 hS.2.2.2.1) (cell_keep hb2 hS.2.2.2.2))))
    refine hK _ _ (fun _ => hS2) ?_
    clear hK K hb2 HK hS
    try simp only [Act.put, List.getElem_toArray, List.getElem_cons_zero, List.getElem_cons_succ, List.setIfInBounds_toArray, List.set_cons_zero, List.set_cons_succ]
    refine upto_take (i := 2) (v := ?_) rfl (by kernel_rfl) (by kernel_rfl) (by kernel_rfl) (by kernel_rfl) (fun _ _ _ h => h) (by rfl) hS2 ?_ ?_
    rotate_left
    · intro wS hSw
      try dsimp only at hSw
      first | (go_simp; done) | (go_simp; with_reducible rfl)
    try simp only [Act.put, List.getElem_toArray, List.getElem_cons_zero, List.getElem_cons_succ, List.setIfInBounds_toArray, List.set_cons_zero, List.set_cons_succ]
    refine upto_step (i := 4) (by kernel_rfl) rfl ?_
    intro K hK
    go_simp
    refine (HE.out _ hS2.1).mono ?_
    rintro e w3 ⟨rfl, hb3⟩
    have hB3 : Below w.heap.size w w3 := bstep hS2.1 hb3
    have hS3 := And.intro (bstep hS2.1 hb3) (And.intro (cell_keep hb3 hS2.2.1) (And.intro (cell_keep hb3 hS2.2.2.1) (And.intro (cell_keep hb3 hS2.2.2.2.1) (cell_keep hb3 hS2.2.2.2.2))))
    refine hK _ _ (fun _ => hS3) ?_
    clear hK K hb3 HE hS2
    try simp only [Act.put, List.getElem_toArray, List.getElem_cons_zero, List.getElem_cons_succ, List.setIfInBounds_toArray, List.set_cons_zero, List.set_cons_succ]
    refine upto_step (i := 5) (by kernel_rfl) rfl ?_
    intro K hK
    go_simp
    refine hK _ _ (fun h => absurd rfl h) ?_
    clear hK K hS3
    refine upto_done (by kernel_rfl) ?_
    refine NoPanic.normal ?_
    go_wp2
    go_ret
    exact ⟨rfl, hB3⟩
end Go.Proofs.YtecfelacdapdgaaGreat

/-
  UnpackEvent, the program's.
-/
set_option linter.unusedSimpArgs false
set_option linter.unusedVariables false
namespace Go.Proofs.YtecfelacdapdgaaGreat
open Go.RowKit
set_option linter.unusedSectionVars false
variable [DecidableEq Leg] [Inhabited Leg] [DecidableEq Cont] [Inhabited Cont] [DecidableEq Evt] [Inhabited Evt] [DecidableEq EvtR] [Inhabited EvtR] [DecidableEq BytesR] [Inhabited BytesR] [DecidableEq ContR] [Inhabited ContR] [DecidableEq Logg] [Inhabited Logg] [DecidableEq LoggR] [Inhabited LoggR] [DecidableEq RecsR] [Inhabited RecsR] [DecidableEq Rw] [Inhabited Rw] [DecidableEq Bal] [Inhabited Bal] [DecidableEq Ledg] [Inhabited Ledg] [DecidableEq LedgR] [Inhabited LedgR] [DecidableEq OutcR] [Inhabited OutcR] [DecidableEq Mrk] [Inhabited Mrk] [DecidableEq Shd] [Inhabited Shd] [DecidableEq ShdR] [Inhabited ShdR]
attribute [local go_sem ↓] Go.wp_at_zero Go.wp_at_succ

def outIn14 (ys : List Byte) : Value := .tuple (if ys.length = 9 then #[.agg #[.bool false, .int .i64 (IntKind.i64.wrap (hiN (ys.take 8))), .slice none 0 0, .int .i64 ((ys.getD 8 0).val : Int)], .bool (evtF ⟨false, ⟨IntKind.i64.wrap (hiN (ys.take 8)), []⟩, ((ys.getD 8 0).val : Int)⟩ == 0)] else #[.agg #[.bool false, .int .i64 0, .slice none 0 0, .int .i64 0], .bool false])
set_option maxRecDepth 20000 in
set_option maxHeartbeats 4000000 in
theorem outcomeIn_u (x : Value) (ys : List Byte) (w : World) (hx : bytesR.V w x ys) :
    Calls Tryz.prog 79 #[x] w fun e w' => e = .returned (outIn14 ys) ∧ Below w.heap.size w w' := by
  have hX := hx
  obtain ⟨ax, cx, rfl, hcx, hmx, hx⟩ := hx
  unfold maxLen at hmx
  by_cases h9 : ys.length = 9
  · have HD : Hid (outIn14 ys = .tuple #[.agg #[.bool false, .int .i64 (IntKind.i64.wrap (hiN (ys.take 8))), .slice none 0 0, .int .i64 ((ys.getD 8 0).val : Int)], .bool (evtF ⟨false, ⟨IntKind.i64.wrap (hiN (ys.take 8)), []⟩, ((ys.getD 8 0).val : Int)⟩ == 0)]) := by show _ = _; unfold outIn14; rw [if_pos h9]
    obtain ⟨a', c', run, hv⟩ := cutH (a := ax) (n := ys.length) (cap := cx) 8 (by omega) (by omega) hcx
    have hV8 := hv w ys rfl hX
    rw [show (8 : Int).toNat = 8 by omega] at hV8 run
    obtain ⟨bb, ob, rfl, hc8⟩ := hx 8 (by omega)
    have hw9 : IntKind.i64.wrap ((ys.getD 8 0).val : Int) = ((ys.getD 8 0).val : Int) := by rw [IntKind.wrap_i64]; have := (ys.getD 8 0).isLt; omega
    have HN : Hid (∀ W, Below w.heap.size w W → Calls Tryz.prog 103 #[.slice a' 8 c'] W fun e w' => e = .returned (.int .i64 (IntKind.i64.wrap (hiN (ys.take 8)))) ∧ w' = W) := fun W hW => numberIn_any _ _ W (BytesV_below hV8 hW)
    generalize IntKind.i64.wrap (hiN (ys.take 8)) = id at *
    generalize ((ys.getD 8 0).val : Int) = oo at *
    have zb : bb < w.heap.size := World.block_lt_of_cell? w _ hc8
    have HF : Hid (∀ W, Calls Tryz.prog 10 #[.agg #[.bool false, .int .i64 id, .slice none 0 0, .int .i64 oo]] W fun e w' => e = .returned (.int .i64 (evtF ⟨false, ⟨id, []⟩, oo⟩)) ∧ Below W.heap.size W w') := fun W => implEvF_any _ ⟨false, ⟨id, []⟩, oo⟩ W (evtR.ofO (evt_nil14 W 0 false id oo))
    clear hx hX hv hV8
    rw [h9] at hcx run ⊢
    rw [HD.out]
    clear HD h9
    generalize evtF ⟨false, ⟨id, []⟩, oo⟩ = ef at *
    go_enter Tryz.func79, Tryz.ntmps79
    go_wp2
    have hc : ∀ W, Below w.heap.size w W → W.cell? ⟨bb, ob + 8, none⟩ = some (.int .u8 oo) := fun W hW => cell_keep hW hc8
    have c8 : (w.alloc (.cells #[.bool false, .int .i64 0, .slice none 0 0, .int .i64 0] 33)).cell? ⟨bb, ob + 8, none⟩ = some (.int .u8 oo) := hc _ (by (repeat (first | exact Below.refl _ _ | assumption | refine Below.drew ?_ | refine balloc ?_ _ | refine bset ?_ (by simp; omega) _ | refine bset ?_ (by simp) _ | refine bstep ?_ (by assumption))))
    go_region_held3 (fun W => Below w.heap.size w W ∧ W.cell? ⟨bb, ob + 8, none⟩ = some (.int .u8 oo)) ((refine ⟨by (repeat (first | exact Below.refl _ _ | assumption | refine Below.drew ?_ | refine balloc ?_ _ | refine bset ?_ (by simp; omega) _ | refine bset ?_ (by simp) _ | refine bstep ?_ (by assumption))), ?_⟩; refine hc _ (by (repeat (first | exact Below.refl _ _ | assumption | refine Below.drew ?_ | refine balloc ?_ _ | refine bset ?_ (by simp; omega) _ | refine bset ?_ (by simp) _ | refine bstep ?_ (by assumption)))))) (first | (go_at_call 103; refine (HN.out _ (by (repeat (first | exact Below.refl _ _ | assumption | refine Below.drew ?_ | refine balloc ?_ _ | refine bset ?_ (by simp; omega) _ | refine bset ?_ (by simp) _ | refine bstep ?_ (by assumption))))).mono ?_; rintro e w2 ⟨rfl, hw⟩; obtain rfl := hw.symm))
    all_goals
      go_wp2
      obtain ⟨wq, hwq⟩ : ∃ wq, wq = ((w.alloc (.cells #[.bool false, .int .i64 0, .slice none 0 0, .int .i64 0] 33)).alloc (.cells #[.bool false, .int .i64 id, .slice none 0 0, .int .i64 oo] 33)).drew := ⟨_, rfl⟩
      have h0 : Below w.heap.size w wq ∧ wq.cell? ⟨w.heap.size + 1, 0, none⟩ = some (.bool false) ∧ wq.cell? ⟨w.heap.size + 1, 1, none⟩ = some (.int .i64 id) ∧ wq.cell? ⟨w.heap.size + 1, 2, none⟩ = some (.slice none 0 0) ∧ wq.cell? ⟨w.heap.size + 1, 3, none⟩ = some (.int .i64 oo) := by
        rw [hwq]
        exact ⟨by (repeat (first | exact Below.refl _ _ | assumption | refine Below.drew ?_ | refine balloc ?_ _ | refine bset ?_ (by simp; omega) _ | refine bset ?_ (by simp) _ | refine bstep ?_ (by assumption))), by simp [go_sem], by simp [go_sem], by simp [go_sem], by simp [go_sem]⟩
      have r0 : wq.cell? ⟨w.heap.size, 0, none⟩ = some (.bool false) := by rw [hwq]; simp [go_sem]
      have r1 : wq.cell? ⟨w.heap.size, 1, none⟩ = some (.int .i64 0) := by rw [hwq]; simp [go_sem]
      have r2 : wq.cell? ⟨w.heap.size, 2, none⟩ = some (.slice none 0 0) := by rw [hwq]; simp [go_sem]
      have r3 : wq.cell? ⟨w.heap.size, 3, none⟩ = some (.int .i64 0) := by rw [hwq]; simp [go_sem]
      have rf : ∀ o, wq.frozen? ⟨w.heap.size, o, none⟩ = false := fun o => by rw [hwq]; simp [go_sem]
      have hz0 : w.heap.size < wq.drew.heap.size := by show w.heap.size < wq.heap.size; rw [hwq]; simp; omega
      rw [← hwq]
      clear hwq zb run hc hc8 c8 HN
      go_region_held3 (fun W => Below w.heap.size w W ∧ W.cell? ⟨w.heap.size + 1, 0, none⟩ = some (.bool false) ∧ W.cell? ⟨w.heap.size + 1, 1, none⟩ = some (.int .i64 id) ∧ W.cell? ⟨w.heap.size + 1, 2, none⟩ = some (.slice none 0 0) ∧ W.cell? ⟨w.heap.size + 1, 3, none⟩ = some (.int .i64 oo))
        ((first | exact keepS4 h0 (Below.drew (Below.refl _ _)) | exact hS3 | exact unKeep4_14 hS3 _ _ _ _))
        (first | (go_at_call 10; refine (HF.out _).mono ?_; rintro e w3 ⟨rfl, hb3⟩; have hS3 := keepS4 (keepS4 h0 (Below.drew (Below.refl _ _))) hb3; have e0 := cell_keep hb3 (cell_keep (Below.drew (Below.refl _ _)) r0); have e1 := cell_keep hb3 (cell_keep (Below.drew (Below.refl _ _)) r1); have e2 := cell_keep hb3 (cell_keep (Below.drew (Below.refl _ _)) r2); have e3 := cell_keep hb3 (cell_keep (Below.drew (Below.refl _ _)) r3); have ef' := fun o => ((bcell hb3).2 w.heap.size o hz0).trans (rf o)))
      have hB3 : Below w.heap.size w w3 := hS3.1
      clear hS3 hb3 h0 HF
      go_wp2
      refine bodyPost_ret (v := .tuple #[.agg #[.bool false, .int .i64 id, .slice none 0 0, .int .i64 oo], .bool (ef == 0)]) (by simp [results, Tryz.results79, go_sem, e0, e1, e2, e3, ef']) rfl ⟨rfl, ?_⟩
      iterate 4 (refine bset ?_ (by simp) _)
      exact hB3
  · have HD : Hid (outIn14 ys = .tuple #[.agg #[.bool false, .int .i64 0, .slice none 0 0, .int .i64 0], .bool false]) := by show _ = _; unfold outIn14; rw [if_neg h9]
    have hd : ((ys.length : Int) != 9) = true := by simp only [bne_iff_ne, ne_eq]; omega
    clear hx hX h9
    rw [HD.out]
    generalize ys.length = n at *
    go_enter Tryz.func79, Tryz.ntmps79
    go_wp2
    exact bodyPost_ret (v := .tuple #[.agg #[.bool false, .int .i64 0, .slice none 0 0, .int .i64 0], .bool false]) (by simp [results, Tryz.results79, go_sem]) rfl ⟨rfl, by (repeat (first | exact Below.refl _ _ | assumption | refine Below.drew ?_ | refine balloc ?_ _ | refine bset ?_ (by simp; omega) _ | refine bset ?_ (by simp) _ | refine bstep ?_ (by assumption)))⟩
theorem drop_out14 {xs : List Byte} (h : 1 ≤ xs.length) : (xs.drop 1).length = xs.length - 1 ∧ (xs.drop 1).getD 8 0 = xs.getD 9 0 := ⟨by rw [List.length_drop], by simp [List.getD]⟩
set_option maxRecDepth 20000 in
set_option maxHeartbeats 4000000 in
theorem eventIn_u (x : Value) (xs : List Byte) (w : World) (hx : bytesR.V w x xs) :
    Calls Tryz.prog 47 #[x] w (UnpE14 w xs) := by
  have hX := hx
  obtain ⟨ax, cx, rfl, hcx, hmx, hx⟩ := hx
  unfold maxLen at hmx
  by_cases h0 : xs.length = 0
  · have HD : Hid (unpE xs = errE) := unpE_nil14 h0
    clear hx hX
    rw [h0] at hcx ⊢
    go_enter Tryz.func47, Tryz.ntmps47
    go_wp2
    exact bodyPost_ret (v := .tuple #[.agg #[.bool false, .int .i64 0, .slice none 0 0, .int .i64 0], .bool false]) (by simp [results, Tryz.results47, go_sem]) rfl (unpE_bad14 HD.out (by (repeat (first | exact Below.refl _ _ | assumption | refine Below.drew ?_ | refine balloc ?_ _ | refine bset ?_ (by simp; omega) _ | refine bset ?_ (by simp) _ | refine bstep ?_ (by assumption)))))
  have hl1 : 1 ≤ xs.length := Nat.pos_of_ne_zero h0
  obtain ⟨bb, oo', rfl, hc0⟩ := hx 0 (by omega)
  rw [Nat.add_zero] at hc0
  have hd0 : ((xs.length : Int) == 0) = false := beq_eq_false_iff_ne.2 (by omega)
  have hlt : (0 : Int) < (xs.length : Int) := by omega
  have zb : bb < w.heap.size := World.block_lt_of_cell? w _ hc0
  obtain ⟨a', c', run, hv⟩ := cutL (a := some ⟨bb, oo', none⟩) (n := xs.length) (cap := cx) 1 (by omega) (by omega) hcx
  by_cases h1 : (xs.getD 0 0).val = 1
  · have HD : Hid (unpE xs = if (unpD (xs.drop 1)).code = 0 then ⟨0, ⟨true, (unpD (xs.drop 1)).contract, 0⟩⟩ else errE) := unpE_vote14 h0 h1
    have HC : Hid (∀ W, Below w.heap.size w W → Calls Tryz.prog 78 #[.slice a' (xs.length - (1 : Int).toNat) c'] W fun e w' => ∃ v F, e = .returned v ∧ contRR.O w' W.heap.size F v (unpD (xs.drop 1)) ∧ Below W.heap.size W w') := fun W hW => implUnpC_u _ (xs.drop 1) W (hv W xs rfl (bytesR.below hX hW))
    have g0 : w.cell? ⟨bb, oo', none⟩ = some (.int .u8 1) := by have h := hc0; rw [h1] at h; exact h
    clear hx hX hv hc0 h1
    obtain ⟨D, hD⟩ : ∃ D, unpD (xs.drop 1) = D := ⟨_, rfl⟩
    rw [hD] at HC HD
    clear hD
    obtain ⟨cd, ct⟩ := D
    dsimp only at HC HD
    go_enter Tryz.func47, Tryz.ntmps47
    go_wp2_with fail
    refine (HC.out _ (by (repeat (first | exact Below.refl _ _ | assumption | refine Below.drew ?_ | refine balloc ?_ _ | refine bset ?_ (by simp; omega) _ | refine bset ?_ (by simp) _ | refine bstep ?_ (by assumption))))).mono ?_
    rintro e w1 ⟨v1, F1, rfl, o1, hb1⟩
    obtain ⟨u1, F2, rfl, o2, hF2⟩ := o1
    have HO : Hid (contR.O w1 (w.heap.size + 1) F2 (.agg #[.int .i64 ct.id, u1]) ct) := contR.base o2 (by simp)
    obtain ⟨p, q, e2⟩ := contO_form o2
    simp only [Value.agg.injEq, Array.mk.injEq, List.cons.injEq, and_true, true_and] at e2
    subst e2
    have hB1 : Below w.heap.size w w1 := bstep (by (repeat (first | exact Below.refl _ _ | assumption | refine Below.drew ?_ | refine balloc ?_ _ | refine bset ?_ (by simp; omega) _ | refine bset ?_ (by simp) _ | refine bstep ?_ (by assumption)))) hb1
    have r0 : w1.cell? ⟨w.heap.size, 0, none⟩ = some (.bool false) := cell_keep hb1 (by simp [go_sem])
    have r1 : w1.cell? ⟨w.heap.size, 1, none⟩ = some (.int .i64 0) := cell_keep hb1 (by simp [go_sem])
    have r2 : w1.cell? ⟨w.heap.size, 2, none⟩ = some (.slice none 0 0) := cell_keep hb1 (by simp [go_sem])
    have r3 : w1.cell? ⟨w.heap.size, 3, none⟩ = some (.int .i64 0) := cell_keep hb1 (by simp [go_sem])
    have rf : ∀ o, w1.frozen? ⟨w.heap.size, o, none⟩ = false := fun o => by rw [(bcell hb1).2 _ _ (by simp)]; simp [go_sem]
    have z1 : w.heap.size < w1.heap.size := by have := hb1.size; simp at this; omega
    clear o2 hb1 HC run hF2
    generalize hm : ct.legs.length = m at *
    clear hm
    go_wp2
    have hS0 : (w1.alloc (.cells #[.int .i64 cd, .int .i64 ct.id, .slice p m q] 124)).cell? ⟨w1.heap.size, 0, none⟩ = some (.int .i64 cd) ∧ (w1.alloc (.cells #[.int .i64 cd, .int .i64 ct.id, .slice p m q] 124)).cell? ⟨w1.heap.size, 1, none⟩ = some (.int .i64 ct.id) ∧ (w1.alloc (.cells #[.int .i64 cd, .int .i64 ct.id, .slice p m q] 124)).cell? ⟨w1.heap.size, 2, none⟩ = some (.slice p m q) := ⟨by simp [go_sem], by simp [go_sem], by simp [go_sem]⟩
    obtain ⟨wq, hwq⟩ : ∃ wq, wq = w1.alloc (.cells #[.int .i64 cd, .int .i64 ct.id, .slice p m q] 124) := ⟨_, rfl⟩
    rw [← hwq] at hS0
    have hbq : Below w1.heap.size w1 wq := by rw [hwq]; (repeat (first | exact Below.refl _ _ | assumption | refine Below.drew ?_ | refine balloc ?_ _ | refine bset ?_ (by simp; omega) _ | refine bset ?_ (by simp) _ | refine bstep ?_ (by assumption)))
    rw [← hwq]
    clear hwq
    replace r0 := cell_keep hbq r0
    replace r1 := cell_keep hbq r1
    replace r2 := cell_keep hbq r2
    replace r3 := cell_keep hbq r3
    replace rf : ∀ o, wq.frozen? ⟨w.heap.size, o, none⟩ = false := fun o => by rw [(bcell hbq).2 _ _ z1]; exact rf o
    have HO2 : Hid (contR.O wq (w.heap.size + 1) F2 (.agg #[.int .i64 ct.id, .slice p m q]) ct) := contR.keep HO.out hbq
    have hBq : Below w.heap.size w wq := bstep hB1 hbq
    have z2 : w.heap.size < wq.heap.size := Nat.lt_of_lt_of_le z1 hbq.size
    have hbd : Below wq.heap.size wq wq.drew := Below.drew (Below.refl _ _)
    have hne : ¬ w1.heap.size = w.heap.size := by omega
    have hne' : ¬ w.heap.size = w1.heap.size := by omega
    clear HO hB1 hbq
    go_region_held3 (fun W => W.cell? ⟨w1.heap.size, 0, none⟩ = some (.int .i64 cd) ∧ W.cell? ⟨w1.heap.size, 1, none⟩ = some (.int .i64 ct.id) ∧ W.cell? ⟨w1.heap.size, 2, none⟩ = some (.slice p m q))
      ((first | exact ⟨cell_keep hbd hS0.1, cell_keep hbd hS0.2.1, cell_keep hbd hS0.2.2⟩ | exact ⟨by simp [go_sem, hS0, hne, hne'], by simp [go_sem, hS0, hne, hne'], by simp [go_sem, hS0, hne, hne']⟩)) (first | fail)
    all_goals
      clear hS0
      go_wp2
      refine bodyPost_ret (v := .tuple #[.agg #[.bool true, .int .i64 ct.id, .slice p m q, .int .i64 0], .bool (cd == 0)]) (by simp [results, Tryz.results47, go_sem, r0, r1, r2, r3, rf, z2]) rfl ?_
      refine ⟨.agg #[.bool true, .int .i64 ct.id, .slice p m q, .int .i64 0], F2, ⟨true, ct, 0⟩, ?_, evt_of_cont (i := ct.id) (u := .slice p m q) (contR.base (base := w.heap.size + 1) ?_ (by omega)) true 0, ?_, ?_⟩
      · rw [HD.out]
        by_cases hc : cd = 0
        · rw [if_pos hc, hc]
          rfl
        · rw [if_neg hc]
          have : (cd == 0) = false := by simpa using hc
          rw [this]
          rfl
      · refine contR.keep ?_ (Below.drew (Below.refl _ _))
        iterate 4 (refine contR.set ?_ _ (by simp))
        exact HO2.out
      · intro h
        rw [HD.out] at h ⊢
        by_cases hc : cd = 0
        · rw [if_pos hc]
        · rw [if_neg hc] at h
          cases h
      · refine Below.drew ?_
        iterate 4 (refine bset ?_ (by simp) _)
        exact hBq
  by_cases h2 : (xs.getD 0 0).val = 2
  · obtain ⟨hdl, hd9⟩ := drop_out14 hl1
    have HC : Hid (∀ W, Below w.heap.size w W → Calls Tryz.prog 79 #[.slice a' (xs.length - (1 : Int).toNat) c'] W fun e w' => e = .returned (outIn14 (xs.drop 1)) ∧ Below W.heap.size W w') := fun W hW => outcomeIn_u _ (xs.drop 1) W (hv W xs rfl (bytesR.below hX hW))
    have g0 : w.cell? ⟨bb, oo', none⟩ = some (.int .u8 2) := by have h := hc0; rw [h2] at h; exact h
    have HV : Hid (∃ (i o : Int) (b : Bool), outIn14 (xs.drop 1) = .tuple #[.agg #[.bool false, .int .i64 i, .slice none 0 0, .int .i64 o], .bool b] ∧ b = decide ((unpE xs).code = 0) ∧ ((unpE xs).code = 0 → unpE xs = ⟨0, ⟨false, ⟨i, []⟩, o⟩⟩)) := by
      show ∃ _, _
      by_cases h10 : xs.length = 10
      · have e1 : unpE xs = if evtF (outE xs) = 0 then ⟨0, outE xs⟩ else errE := unpE_out14 h0 h1 ⟨h2, h10⟩
        have e2 : outE xs = ⟨false, ⟨IntKind.i64.wrap (hiN ((xs.drop 1).take 8)), []⟩, ((xs.getD 9 0).val : Int)⟩ := rfl
        refine ⟨IntKind.i64.wrap (hiN ((xs.drop 1).take 8)), ((xs.getD 9 0).val : Int), evtF (outE xs) == 0, ?_, ?_, ?_⟩
        · unfold outIn14
          rw [if_pos (by omega), hd9, ← e2]
        · rw [e1]
          by_cases hc : evtF (outE xs) = 0
          · rw [if_pos hc, hc]; rfl
          · rw [if_neg hc]
            have : (evtF (outE xs) == 0) = false := by simpa using hc
            rw [this]; rfl
        · intro h
          rw [e1] at h ⊢
          by_cases hc : evtF (outE xs) = 0
          · rw [if_pos hc, e2]
          · rw [if_neg hc] at h; cases h
      · have e1 : unpE xs = errE := unpE_no14 h0 h1 (fun h => h10 h.2)
        refine ⟨0, 0, false, ?_, ?_, ?_⟩
        · unfold outIn14
          rw [if_neg (by omega)]
        · rw [e1]; rfl
        · intro h
          rw [e1] at h; cases h
    obtain ⟨i, o, b, e1, e2, e3⟩ := HV.out
    have HE2 : Hid (b = decide ((unpE xs).code = 0)) := e2
    have HE3 : Hid ((unpE xs).code = 0 → unpE xs = ⟨0, ⟨false, ⟨i, []⟩, o⟩⟩) := e3
    rw [e1] at HC
    clear hx hX hv hc0 h1 h2 hdl hd9 HV e1 e2 e3
    go_enter Tryz.func47, Tryz.ntmps47
    go_wp2_with fail
    refine (HC.out _ (by (repeat (first | exact Below.refl _ _ | assumption | refine Below.drew ?_ | refine balloc ?_ _ | refine bset ?_ (by simp; omega) _ | refine bset ?_ (by simp) _ | refine bstep ?_ (by assumption))))).mono ?_
    rintro e w1 ⟨rfl, hb1⟩
    have hB1 : Below w.heap.size w w1 := bstep (by (repeat (first | exact Below.refl _ _ | assumption | refine Below.drew ?_ | refine balloc ?_ _ | refine bset ?_ (by simp; omega) _ | refine bset ?_ (by simp) _ | refine bstep ?_ (by assumption)))) hb1
    have r0 : w1.cell? ⟨w.heap.size, 0, none⟩ = some (.bool false) := cell_keep hb1 (by simp [go_sem])
    have r1 : w1.cell? ⟨w.heap.size, 1, none⟩ = some (.int .i64 0) := cell_keep hb1 (by simp [go_sem])
    have r2 : w1.cell? ⟨w.heap.size, 2, none⟩ = some (.slice none 0 0) := cell_keep hb1 (by simp [go_sem])
    have r3 : w1.cell? ⟨w.heap.size, 3, none⟩ = some (.int .i64 0) := cell_keep hb1 (by simp [go_sem])
    have rf : ∀ o, w1.frozen? ⟨w.heap.size, o, none⟩ = false := fun o => by rw [(bcell hb1).2 _ _ (by simp)]; simp [go_sem]
    have z1 : w.heap.size < w1.heap.size := by have := hb1.size; simp at this; omega
    clear hb1 HC run
    go_wp2
    refine bodyPost_ret (v := .tuple #[.agg #[.bool false, .int .i64 i, .slice none 0 0, .int .i64 o], .bool b]) (by simp [results, Tryz.results47, go_sem, r0, r1, r2, r3, rf, z1]) rfl ?_
    refine ⟨_, none_, ⟨false, ⟨i, []⟩, o⟩, by rw [HE2.out], evt_nil14 _ _ _ _ _, HE3.out, ?_⟩
    iterate 4 (refine bset ?_ (by simp) _)
    exact hB1
  · have HD : Hid (unpE xs = errE) := unpE_no14 h0 h1 (fun h => h2 h.1)
    have hd1 : (((xs.getD 0 0).val : Int) == 1) = false := beq_eq_false_iff_ne.2 (by omega)
    have hd2 : (((xs.getD 0 0).val : Int) == 2) = false := beq_eq_false_iff_ne.2 (by omega)
    clear hx hX hv run h0 h1 h2 hl1
    generalize ((xs.getD 0 0).val : Int) = q at *
    generalize xs.length = n at *
    go_enter Tryz.func47, Tryz.ntmps47
    go_wp2
    exact bodyPost_ret (v := .tuple #[.agg #[.bool false, .int .i64 0, .slice none 0 0, .int .i64 0], .bool false]) (by simp [results, Tryz.results47, go_sem]) rfl (unpE_bad14 HD.out (by (repeat (first | exact Below.refl _ _ | assumption | refine Below.drew ?_ | refine balloc ?_ _ | refine bset ?_ (by simp; omega) _ | refine bset ?_ (by simp) _ | refine bstep ?_ (by assumption)))))
set_option maxHeartbeats 2000000 in
theorem implUnpE_u (x : Value) (xs : List Byte) (w : World) (hx : bytesR.V w x xs) :
    Calls Tryz.prog 20 #[x] w fun e w' => ∃ v F, e = .returned v ∧ evtRR.O w' w.heap.size F v (unpE xs) ∧ Below w.heap.size w w' := by
  have HU : Hid (∀ W, Below w.heap.size w W → Calls Tryz.prog 47 #[x] W (UnpE14 W xs)) := fun W hW => eventIn_u x xs W (bytesR.below hx hW)
  have HZ : Hid (¬ (unpE xs).code = 0 → unpE xs = errE) := unpE_err14
  obtain ⟨ax, cx, rfl, _⟩ := hx
  go_enter Tryz.func20, Tryz.ntmps20
  go_wp2_with fail
  refine (HU.out _ (by (repeat (first | exact Below.refl _ _ | assumption | refine Below.drew ?_ | refine balloc ?_ _ | refine bset ?_ (by simp; omega) _ | refine bset ?_ (by simp) _ | refine bstep ?_ (by assumption))))).mono ?_
  rintro e w1 ⟨v1, F1, y1, rfl, o1, hy, hb1⟩
  obtain ⟨p, q, rfl⟩ := evtO_form o1
  have hB1 : Below w.heap.size w w1 := bstep (by (repeat (first | exact Below.refl _ _ | assumption | refine Below.drew ?_ | refine balloc ?_ _ | refine bset ?_ (by simp; omega) _ | refine bset ?_ (by simp) _ | refine bstep ?_ (by assumption)))) hb1
  have r0 : w1.cell? ⟨w.heap.size, 0, none⟩ = some (.int .i64 0) := cell_keep hb1 (by simp [go_sem])
  have r1 : w1.cell? ⟨w.heap.size, 1, none⟩ = some (.bool false) := cell_keep hb1 (by simp [go_sem])
  have r2 : w1.cell? ⟨w.heap.size, 2, none⟩ = some (.int .i64 0) := cell_keep hb1 (by simp [go_sem])
  have r3 : w1.cell? ⟨w.heap.size, 3, none⟩ = some (.slice none 0 0) := cell_keep hb1 (by simp [go_sem])
  have r4 : w1.cell? ⟨w.heap.size, 4, none⟩ = some (.int .i64 0) := cell_keep hb1 (by simp [go_sem])
  have rf : ∀ o, w1.frozen? ⟨w.heap.size, o, none⟩ = false := fun o => by rw [(bcell hb1).2 _ _ (by simp)]; simp [go_sem]
  have hz : w.heap.size < w1.heap.size := by have := hb1.size; simp at this; omega
  have HO : Hid (evtR.O w1 (w.heap.size + 1) F1 (.agg #[.bool y1.vote, .int .i64 y1.con.id, .slice p y1.con.legs.length q, .int .i64 y1.out]) y1) := evtR.base o1 (by simp)
  clear o1 hb1 HU
  by_cases hc : (unpE xs).code = 0
  · have HD : Hid (unpE xs = ⟨0, y1⟩) := hy hc
    have e1 : decide ((unpE xs).code = 0) = true := decide_eq_true hc
    rw [e1]
    clear e1 hc hy HZ
    generalize y1.con.legs.length = m at *
    go_wp2
    refine bodyPost_ret (v := .agg #[.int .i64 0, .bool y1.vote, .int .i64 y1.con.id, .slice p m q, .int .i64 y1.out]) (by simp [results, Tryz.results20, go_sem, r0, r1, r2, r3, r4, rf, hz]) rfl ⟨_, F1, rfl, ?_, ?_⟩
    · rw [HD.out]
      refine evtR_of14 (evtR.base (base := w.heap.size + 1) ?_ (by omega))
      refine evtR.alloc ?_ _
      iterate 5 (refine evtR.set ?_ _ (by simp))
      exact HO.out
    · refine balloc ?_ _
      iterate 5 (refine bset ?_ (by simp) _)
      exact hB1
  · have HD : Hid (unpE xs = errE) := HZ.out hc
    have e1 : decide ((unpE xs).code = 0) = false := decide_eq_false hc
    rw [e1]
    clear e1 hc hy HZ
    generalize y1.con.legs.length = m at *
    go_wp2
    refine bodyPost_ret (v := .agg #[.int .i64 5, .bool false, .int .i64 0, .slice none 0 0, .int .i64 0]) (by simp [results, Tryz.results20, go_sem, r0, r1, r2, r3, r4, rf, hz]) rfl ⟨_, none_, rfl, ?_, ?_⟩
    · rw [HD.out]
      exact errE_O14 _ _
    · refine balloc ?_ _
      iterate 5 (refine bset ?_ (by simp) _)
      exact hB1
end Go.Proofs.YtecfelacdapdgaaGreat

