import Derived.Test.YtecfelacdapdgaaGreatPrnEventFaultLaw3
import Derived.Test.YtecfelacdapdgaaGreatPrnEventFaultLaw2
import Derived.Deep.RegionHeld3
import Derived.Deep.DrawnRows
import Derived.Test.YtecfelacdapdgaaGreatPrnEventFaultLaw6
import Derived.Test.YtecfelacdapdgaaGreatPrnEventFaultLaw1
import Derived.Deep.DeepAppendRoom
import Derived.PlainAid
import Derived.Laws.BitsAllLaws
import Derived.Lib.ConvBytes
import Derived.Test.YtecfelacdapdgaaGreatPrnEventFaultLaw4
import Derived.Test.YtecfelacdapdgaaGreatPrnEventFaultLaw5
import Derived.Deep.QuietTactic
import Derived.Maps.AppendAt
import Derived.Maps.OwnSet
import Derived.DeepKeys4
import Derived.BigQuiet

/-
  RecordsResult. (Written by program: nest.py.)
-/
namespace Go.Proofs.YtecfelacdapdgaaGreat
open Go.RowKit
set_option linter.unusedSectionVars false
attribute [local go_sem ↓] Go.wp_at_zero Go.wp_at_succ

structure RecsR where
  code : Int
  used : Int
  records : List (List Byte)
variable [DecidableEq RecsR] [Inhabited RecsR]

end Go.Proofs.YtecfelacdapdgaaGreat

/-
  EventFault, PackEvent: the document's.
-/
set_option linter.unusedSimpArgs false
set_option linter.unusedVariables false
namespace Go.Proofs.YtecfelacdapdgaaGreat
open Go.RowKit
set_option linter.unusedSectionVars false
variable [DecidableEq Leg] [Inhabited Leg] [DecidableEq Cont] [Inhabited Cont] [DecidableEq Evt] [Inhabited Evt] [DecidableEq EvtR] [Inhabited EvtR] [DecidableEq BytesR] [Inhabited BytesR] [DecidableEq ContR] [Inhabited ContR] [DecidableEq Logg] [Inhabited Logg] [DecidableEq LoggR] [Inhabited LoggR] [DecidableEq RecsR] [Inhabited RecsR]
attribute [local go_sem ↓] Go.wp_at_zero Go.wp_at_succ

theorem evt_open {w : World} {x : Value} {d : Evt} (hx : evtR.V w x d) : ∃ a c, x = .agg #[.bool d.vote, .int .i64 d.con.id, .slice a d.con.legs.length c, .int .i64 d.out] ∧ LegsV w (.slice a d.con.legs.length c) d.con.legs := by
  obtain ⟨u, rfl, h1⟩ := evtf_V.2 hx
  obtain ⟨a, c, rfl⟩ := legs_form h1
  exact ⟨a, c, rfl, h1⟩
theorem evt_formA {w : World} {x : Value} {d : Evt} (hx : evtR.V w x d) : ∃ a c, x = .agg #[.bool d.vote, .int .i64 d.con.id, .slice a d.con.legs.length c, .int .i64 d.out] := by
  obtain ⟨a, c, rfl, _⟩ := evt_open hx
  exact ⟨a, c, rfl⟩
set_option maxHeartbeats 2000000 in
theorem specEvF_any (x : Value) (d : Evt) (w : World) (hx : evtR.V w x d) :
    Calls Tryz.prog 8 #[x] w fun e w' => e = .returned (.int .i64 (evtF d)) ∧ Below w.heap.size w w' := by
  obtain ⟨a, c, rfl, hl⟩ := evt_open hx
  obtain ⟨b, ⟨id, ls⟩, o⟩ := d
  dsimp only at hl ⊢
  clear hx
  cases b
  · have HD : Hid (evtF ⟨false, ⟨id, ls⟩, o⟩ = if (inB id 1 1000000000 && inB o 1 2) = true then (if ls.length = 0 then 0 else 1) else 3) := rfl
    generalize evtF ⟨false, ⟨id, ls⟩, o⟩ = R at *
    generalize ls.length = n at *
    clear hl
    cases hk : inB id 1 1000000000
    · rw [hk] at HD
      go_enter Tryz.func8, Tryz.ntmps8
      go_wp2_with (first | (go_at_call 37; refine (l1Id_any _ _).mono ?_; rintro e w' ⟨rfl, hw⟩; obtain rfl := hw.symm; rw [hk]))
      go_ret
      exact ⟨by rw [HD.out]; rfl, by (repeat (first | exact Below.refl _ _ | assumption | refine Below.drew ?_ | refine balloc ?_ _ | refine bset ?_ (by simp; omega) _ | refine bset ?_ (by simp) _ | refine bstep ?_ (by assumption)))⟩
    · cases ho : inB o 1 2
      · rw [hk, ho] at HD
        go_enter Tryz.func8, Tryz.ntmps8
        go_wp2_with (first | (go_at_call 37; refine (l1Id_any _ _).mono ?_; rintro e w' ⟨rfl, hw⟩; obtain rfl := hw.symm; rw [hk]) | (go_at_call 38; refine (l1In_any _ _ _ _).mono ?_; rintro e w' ⟨rfl, hw⟩; obtain rfl := hw.symm; rw [ho]))
        go_ret
        exact ⟨by rw [HD.out]; rfl, by (repeat (first | exact Below.refl _ _ | assumption | refine Below.drew ?_ | refine balloc ?_ _ | refine bset ?_ (by simp; omega) _ | refine bset ?_ (by simp) _ | refine bstep ?_ (by assumption)))⟩
      · rw [hk, ho] at HD
        by_cases hn : n = 0
        · have HE : Hid (R = 0) := by show _ = _; rw [HD.out, hn]; rfl
          have hn' : ¬ (0 : Int) < (n : Int) := by omega
          clear HD hn
          go_enter Tryz.func8, Tryz.ntmps8
          go_wp2_with (first | (go_at_call 37; refine (l1Id_any _ _).mono ?_; rintro e w' ⟨rfl, hw⟩; obtain rfl := hw.symm; rw [hk]) | (go_at_call 38; refine (l1In_any _ _ _ _).mono ?_; rintro e w' ⟨rfl, hw⟩; obtain rfl := hw.symm; rw [ho]))
          go_ret
          exact ⟨by rw [HE.out]; rfl, by (repeat (first | exact Below.refl _ _ | assumption | refine Below.drew ?_ | refine balloc ?_ _ | refine bset ?_ (by simp; omega) _ | refine bset ?_ (by simp) _ | refine bstep ?_ (by assumption)))⟩
        · have HE : Hid (R = 1) := by show _ = _; rw [HD.out, if_neg hn]; rfl
          have hn' : (0 : Int) < (n : Int) := by omega
          clear HD hn
          go_enter Tryz.func8, Tryz.ntmps8
          go_wp2_with (first | (go_at_call 37; refine (l1Id_any _ _).mono ?_; rintro e w' ⟨rfl, hw⟩; obtain rfl := hw.symm; rw [hk]) | (go_at_call 38; refine (l1In_any _ _ _ _).mono ?_; rintro e w' ⟨rfl, hw⟩; obtain rfl := hw.symm; rw [ho]))
          go_ret
          exact ⟨by rw [HE.out]; rfl, by (repeat (first | exact Below.refl _ _ | assumption | refine Below.drew ?_ | refine balloc ?_ _ | refine bset ?_ (by simp; omega) _ | refine bset ?_ (by simp) _ | refine bstep ?_ (by assumption)))⟩
  · have HD : Hid (evtF ⟨true, ⟨id, ls⟩, o⟩ = if contractFault id ls = 0 then (if o = 0 then 0 else 1) else contractFault id ls) := rfl
    have HC : Hid (∀ W, Below w.heap.size w W → Calls Tryz.prog 36 #[.agg #[.int .i64 id, .slice a ls.length c]] W fun e w' => e = .returned (.int .i64 (contractFault id ls)) ∧ Below W.heap.size W w') := fun W hW => specFault_any id _ ls W (LegsV_below hl hW)
    generalize evtF ⟨true, ⟨id, ls⟩, o⟩ = R at *
    clear hl
    generalize contractFault id ls = cf at *
    generalize ls.length = n at *
    go_enter Tryz.func8, Tryz.ntmps8
    go_wp2_with fail
    refine (HC.out _ (by (repeat (first | exact Below.refl _ _ | assumption | refine Below.drew ?_ | refine balloc ?_ _ | refine bset ?_ (by simp; omega) _ | refine bset ?_ (by simp) _ | refine bstep ?_ (by assumption))))).mono ?_
    rintro e w1 ⟨rfl, hb1⟩
    have hB1 : Below w.heap.size w w1 := by (repeat (first | exact Below.refl _ _ | assumption | refine Below.drew ?_ | refine balloc ?_ _ | refine bset ?_ (by simp; omega) _ | refine bset ?_ (by simp) _ | refine bstep ?_ (by assumption)))
    have y3 : w1.cell? ⟨w.heap.size, 3, none⟩ = some (.int .i64 o) := cell_keep hb1 (by simp [go_sem])
    clear hb1 HC
    by_cases hc : cf = 0
    · rw [hc] at HD ⊢
      by_cases ho : o = 0
      · have HE : Hid (R = 0) := by show _ = _; rw [HD.out, ho]; rfl
        have ho' : (o != 0) = false := by simp [ho]
        clear HD ho hc
        go_wp2
        go_ret
        exact ⟨by rw [HE.out]; rfl, by (repeat (first | exact Below.refl _ _ | assumption | refine Below.drew ?_ | refine balloc ?_ _ | refine bset ?_ (by simp; omega) _ | refine bset ?_ (by simp) _ | refine bstep ?_ (by assumption)))⟩
      · have HE : Hid (R = 1) := by show _ = _; rw [HD.out, if_neg ho]; rfl
        have ho' : (o != 0) = true := by simp [ho]
        clear HD ho hc
        go_wp2
        go_ret
        exact ⟨by rw [HE.out]; rfl, by (repeat (first | exact Below.refl _ _ | assumption | refine Below.drew ?_ | refine balloc ?_ _ | refine bset ?_ (by simp; omega) _ | refine bset ?_ (by simp) _ | refine bstep ?_ (by assumption)))⟩
    · have HE : Hid (R = cf) := by show _ = _; rw [HD.out, if_neg hc]
      have hc' : (cf != 0) = true := by simp [hc]
      clear HD hc
      go_wp2
      go_ret
      exact ⟨by rw [HE.out]; rfl, by (repeat (first | exact Below.refl _ _ | assumption | refine Below.drew ?_ | refine balloc ?_ _ | refine bset ?_ (by simp; omega) _ | refine bset ?_ (by simp) _ | refine bstep ?_ (by assumption)))⟩
end Go.Proofs.YtecfelacdapdgaaGreat

/-
  A map whose keys are three numbers: what it holds, key by key; looked up, written, struck.
-/
namespace Go.Proofs.YtecfelacdapdgaaGreat
open Go.RowKit Go.Maps

def kv (s a t : Int) : Value := .agg #[.int .i64 s, .int .i64 a, .int .i64 t]
def kwf (s a t : Int) : Prop := (Lit.int .i64 s).wf = true ∧ (Lit.int .i64 a).wf = true ∧ (Lit.int .i64 t).wf = true
set_option maxRecDepth 20000 in
theorem holdWide : (match Tryz.prog.underlying 220 with | some (.array _ _) | some (.struct _) => true | _ => false) = true := by rw [Tryz.underlying220]
set_option maxRecDepth 20000 in
theorem holdLaw : Keyed Tryz.prog 220 := Keyed.of_law (deep_law_laid laidOut (m := 2) (by omega) (of_decide_eq_true (by kernel_rfl)) (by kernel_rfl) holdWide)
theorem holdCells : Tryz.prog.cellsOf 220 = 3 := by kernel_rfl
theorem holdType : Tryz.prog.keyType 220 = true := by kernel_rfl
theorem holdDepth : ∃ d, Tryz.prog.types.size + 1 = d + 1 + 1 := ⟨Tryz.prog.types.size - 1, by have h : 0 < Tryz.prog.types.size := of_decide_eq_true (by kernel_rfl); omega⟩
theorem intLits (d : Nat) (n : Int) (h : (Lit.int .i64 n).wf = true) : Tryz.prog.keyLits (d + 1) 2 [.int .i64 n] = some [.int .i64 n] := by
  unfold Program.keyLits
  rw [Tryz.underlying2]
  simp [h]
theorem keyOf_kv {s a t : Int} (h : kwf s a t) : ∃ kl, keyOf Tryz.prog 220 (kv s a t) = some kl := by
  obtain ⟨d, hd⟩ := holdDepth
  obtain ⟨h0, h1, h2⟩ := h
  have hc : Tryz.prog.cellsOf 2 = 1 := by kernel_rfl
  have hf : (kv s a t).formed Tryz.prog 220 = true := by simp [kv, Value.formed, Tryz.underlying220, holdCells]
  have hl : Tryz.prog.keyLits (Tryz.prog.types.size + 1) 220 (kv s a t).cells.toList = some [.int .i64 s, .int .i64 a, .int .i64 t] := by
    rw [hd]
    unfold Program.keyLits
    rw [Tryz.underlying220]
    simp [kv, Value.cells, holdCells, hc, List.range, List.range.loop, intLits d s h0, intLits d a h1, intLits d t h2]
  unfold keyOf
  rw [Tryz.underlying220]
  dsimp only
  rw [if_pos (by rw [holdType, hf]; rfl), hl]
  exact ⟨_, rfl⟩
theorem kv_inj {s a t s' a' t' : Int} (h : kv s a t = kv s' a' t') : s = s' ∧ a = a' ∧ t = t' := by
  simpa [kv] using h
def Book (w : World) (b n : Nat) (f : Int → Int → Int → Option Int) : Prop :=
  ∃ D : DataW Unit, w.ownsMap Tryz.prog 220 (plainElem Tryz.prog 2) b n D ∧
    ∀ s a t kl, keyOf Tryz.prog 220 (kv s a t) = some kl → Maps.has D kl = (f s a t).isSome ∧ D.atKey kl (.lit (.int .i64 0)) = .lit (.int .i64 ((f s a t).getD 0))
def upd3 (f : Int → Int → Int → Option Int) (s a t : Int) (v : Option Int) : Int → Int → Int → Option Int := fun s' a' t' => if s' = s ∧ a' = a ∧ t' = t then v else f s' a' t'
theorem Book.lt {w : World} {b n : Nat} {f : Int → Int → Int → Option Int} (h : Book w b n f) : b < w.heap.size := by
  obtain ⟨D, hD, _⟩ := h; exact hD.lt
theorem Book.kept {w w' : World} {b n : Nat} {f : Int → Int → Int → Option Int} {row : Option Nat} (h : Book w b n f) (hg : w.grownBy w' row) (hne : some b ≠ row) : Book w' b n f := by
  obtain ⟨D, hD, h1⟩ := h; exact ⟨D, hD.kept hg hne, h1⟩
theorem Book.below {w w' : World} {b n : Nat} {f : Int → Int → Int → Option Int} (h : Book w b n f) (hb : Below w.heap.size w w') : Book w' b n f := h.kept (grown_of_below hb) (by simp)
theorem Book.mono {w : World} {b n n' : Nat} {f : Int → Int → Int → Option Int} (h : Book w b n f) (hn : n ≤ n') : Book w b n' f := by
  obtain ⟨D, hD, h1⟩ := h; exact ⟨D, hD.mono hn, h1⟩
theorem Book.put {w : World} {b n : Nat} {f : Int → Int → Int → Option Int} (h : Book w b n f) {s a t v : Int} (hw : kwf s a t) (hv : (Lit.int .i64 v).wf = true) (hn : n < maxLen) :
    ∃ w', (Instr.mapUpdate 188 (.map (some b)) (kv s a t) (.int .i64 v)).run Tryz.prog w = .ok () w' ∧ Book w' b (n + 1) (upd3 f s a t (some v)) ∧ w.grownBy w' (some b) := by
  obtain ⟨D, hD, h1⟩ := h
  obtain ⟨kl, hk⟩ := keyOf_kv hw
  obtain ⟨w', hrun, hD', hg⟩ := hD.update holdLaw Tryz.underlying188 hn hk (plainElem_int Tryz.underlying2 hv)
  refine ⟨w', hrun, ⟨_, hD', fun s' a' t' kl' hk' => ?_⟩, hg⟩
  unfold upd3
  by_cases e : kl' = kl
  · subst e
    have := holdLaw.inj hk' hk
    obtain ⟨rfl, rfl, rfl⟩ := kv_inj this
    rw [if_pos ⟨rfl, rfl, rfl⟩]
    exact ⟨has_put_same hD.isMap (holdLaw.key hk) _, atKey_put_same hD.isMap (holdLaw.key hk) _ _⟩
  · rw [if_neg (by
      rintro ⟨rfl, rfl, rfl⟩
      rw [hk] at hk'
      exact e (by simpa using hk'.symm)), has_put_other e, atKey_put_other e]
    exact h1 s' a' t' kl' hk'
end Go.Proofs.YtecfelacdapdgaaGreat

/-
  A row of a table: the law's own copy, comparison, count; RowFault on both sides.
-/
namespace Go.Proofs.YtecfelacdapdgaaGreat
open Go.RowKit
set_option linter.unusedSectionVars false
attribute [local go_sem ↓] Go.wp_at_zero Go.wp_at_succ
set_option linter.unusedSimpArgs false

structure Rw where
  key : ByteArray
  ver : Int
  val : ByteArray
  gone : Bool
variable [DecidableEq Rw] [Inhabited Rw]

end Go.Proofs.YtecfelacdapdgaaGreat

