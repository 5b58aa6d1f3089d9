import Derived.Test.YtecfelacdapdgaaGreatPrnEventsOfLaw12
import Derived.Test.YtecfelacdapdgaaGreatPrnEventsOfLaw18
import Derived.BigQuiet
import Derived.Deep.QuietTactic
import Derived.Deep.RegionHeld3
import Derived.Test.YtecfelacdapdgaaGreatPrnEventsOfLaw14
import Derived.Test.YtecfelacdapdgaaGreatPrnEventsOfLaw2
import Derived.Deep.Slices
import Derived.Lib.SmallJoins
import Derived.Test.YtecfelacdapdgaaGreatPrnEventsOfLaw3
import Derived.Deep.Strs

/-
  UnpackEvent, the program's.
-/
set_option linter.unusedSimpArgs false
set_option linter.unusedVariables false
namespace Go.Proofs.YtecfelacdapdgaaGreat
open Go.RowKit
set_option linter.unusedSectionVars false
variable [DecidableEq Leg] [Inhabited Leg] [DecidableEq Cont] [Inhabited Cont] [DecidableEq Evt] [Inhabited Evt] [DecidableEq EvtR] [Inhabited EvtR] [DecidableEq BytesR] [Inhabited BytesR] [DecidableEq ContR] [Inhabited ContR] [DecidableEq Logg] [Inhabited Logg] [DecidableEq LoggR] [Inhabited LoggR] [DecidableEq RecsR] [Inhabited RecsR] [DecidableEq Rw] [Inhabited Rw] [DecidableEq Bal] [Inhabited Bal] [DecidableEq Ledg] [Inhabited Ledg] [DecidableEq LedgR] [Inhabited LedgR] [DecidableEq OutcR] [Inhabited OutcR] [DecidableEq Mrk] [Inhabited Mrk] [DecidableEq Shd] [Inhabited Shd] [DecidableEq ShdR] [Inhabited ShdR]
attribute [local go_sem ↓] Go.wp_at_zero Go.wp_at_succ

def outIn14 (ys : List Byte) : Value := .tuple (if ys.length = 9 then #[.agg #[.bool false, .int .i64 (IntKind.i64.wrap (hiN (ys.take 8))), .slice none 0 0, .int .i64 ((ys.getD 8 0).val : Int)], .bool (evtF ⟨false, ⟨IntKind.i64.wrap (hiN (ys.take 8)), []⟩, ((ys.getD 8 0).val : Int)⟩ == 0)] else #[.agg #[.bool false, .int .i64 0, .slice none 0 0, .int .i64 0], .bool false])
set_option maxRecDepth 20000 in
set_option maxHeartbeats 4000000 in
theorem outcomeIn_u (x : Value) (ys : List Byte) (w : World) (hx : bytesR.V w x ys) :
    Calls Tryz.prog 79 #[x] w fun e w' => e = .returned (outIn14 ys) ∧ Below w.heap.size w w' := by
  have hX := hx
  obtain ⟨ax, cx, rfl, hcx, hmx, hx⟩ := hx
  unfold maxLen at hmx
  by_cases h9 : ys.length = 9
  · have HD : Hid (outIn14 ys = .tuple #[.agg #[.bool false, .int .i64 (IntKind.i64.wrap (hiN (ys.take 8))), .slice none 0 0, .int .i64 ((ys.getD 8 0).val : Int)], .bool (evtF ⟨false, ⟨IntKind.i64.wrap (hiN (ys.take 8)), []⟩, ((ys.getD 8 0).val : Int)⟩ == 0)]) := by show _ = _; unfold outIn14; rw [if_pos h9]
    obtain ⟨a', c', run, hv⟩ := cutH (a := ax) (n := ys.length) (cap := cx) 8 (by omega) (by omega) hcx
    have hV8 := hv w ys rfl hX
    rw [show (8 : Int).toNat = 8 by omega] at hV8 run
    obtain ⟨bb, ob, rfl, hc8⟩ := hx 8 (by omega)
    have hw9 : IntKind.i64.wrap ((ys.getD 8 0).val : Int) = ((ys.getD 8 0).val : Int) := by rw [IntKind.wrap_i64]; have := (ys.getD 8 0).isLt; omega
    have HN : Hid (∀ W, Below w.heap.size w W → Calls Tryz.prog 103 #[.slice a' 8 c'] W fun e w' => e = .returned (.int .i64 (IntKind.i64.wrap (hiN (ys.take 8)))) ∧ w' = W) := fun W hW => numberIn_any _ _ W (BytesV_below hV8 hW)
    generalize IntKind.i64.wrap (hiN (ys.take 8)) = id at *
    generalize ((ys.getD 8 0).val : Int) = oo at *
    have zb : bb < w.heap.size := World.block_lt_of_cell? w _ hc8
    have HF : Hid (∀ W, Calls Tryz.prog 10 #[.agg #[.bool false, .int .i64 id, .slice none 0 0, .int .i64 oo]] W fun e w' => e = .returned (.int .i64 (evtF ⟨false, ⟨id, []⟩, oo⟩)) ∧ Below W.heap.size W w') := fun W => implEvF_any _ ⟨false, ⟨id, []⟩, oo⟩ W (evtR.ofO (evt_nil14 W 0 false id oo))
    clear hx hX hv hV8
    rw [h9] at hcx run ⊢
    rw [HD.out]
    clear HD h9
    generalize evtF ⟨false, ⟨id, []⟩, oo⟩ = ef at *
    go_enter Tryz.func79, Tryz.ntmps79
    go_wp2
    have hc : ∀ W, Below w.heap.size w W → W.cell? ⟨bb, ob + 8, none⟩ = some (.int .u8 oo) := fun W hW => cell_keep hW hc8
    have c8 : (w.alloc (.cells #[.bool false, .int .i64 0, .slice none 0 0, .int .i64 0] 33)).cell? ⟨bb, ob + 8, none⟩ = some (.int .u8 oo) := hc _ (by (repeat (first | exact Below.refl _ _ | assumption | refine Below.drew ?_ | refine balloc ?_ _ | refine bset ?_ (by simp; omega) _ | refine bset ?_ (by simp) _ | refine bstep ?_ (by assumption))))
    go_region_held3 (fun W => Below w.heap.size w W ∧ W.cell? ⟨bb, ob + 8, none⟩ = some (.int .u8 oo)) ((refine ⟨by (repeat (first | exact Below.refl _ _ | assumption | refine Below.drew ?_ | refine balloc ?_ _ | refine bset ?_ (by simp; omega) _ | refine bset ?_ (by simp) _ | refine bstep ?_ (by assumption))), ?_⟩; refine hc _ (by (repeat (first | exact Below.refl _ _ | assumption | refine Below.drew ?_ | refine balloc ?_ _ | refine bset ?_ (by simp; omega) _ | refine bset ?_ (by simp) _ | refine bstep ?_ (by assumption)))))) (first | (go_at_call 103; refine (HN.out _ (by (repeat (first | exact Below.refl _ _ | assumption | refine Below.drew ?_ | refine balloc ?_ _ | refine bset ?_ (by simp; omega) _ | refine bset ?_ (by simp) _ | refine bstep ?_ (by assumption))))).mono ?_; rintro e w2 ⟨rfl, hw⟩; obtain rfl := hw.symm))
    all_goals
      go_wp2
      obtain ⟨wq, hwq⟩ : ∃ wq, wq = ((w.alloc (.cells #[.bool false, .int .i64 0, .slice none 0 0, .int .i64 0] 33)).alloc (.cells #[.bool false, .int .i64 id, .slice none 0 0, .int .i64 oo] 33)).drew := ⟨_, rfl⟩
      have h0 : Below w.heap.size w wq ∧ wq.cell? ⟨w.heap.size + 1, 0, none⟩ = some (.bool false) ∧ wq.cell? ⟨w.heap.size + 1, 1, none⟩ = some (.int .i64 id) ∧ wq.cell? ⟨w.heap.size + 1, 2, none⟩ = some (.slice none 0 0) ∧ wq.cell? ⟨w.heap.size + 1, 3, none⟩ = some (.int .i64 oo) := by
        rw [hwq]
        exact ⟨by (repeat (first | exact Below.refl _ _ | assumption | refine Below.drew ?_ | refine balloc ?_ _ | refine bset ?_ (by simp; omega) _ | refine bset ?_ (by simp) _ | refine bstep ?_ (by assumption))), by simp [go_sem], by simp [go_sem], by simp [go_sem], by simp [go_sem]⟩
      have r0 : wq.cell? ⟨w.heap.size, 0, none⟩ = some (.bool false) := by rw [hwq]; simp [go_sem]
      have r1 : wq.cell? ⟨w.heap.size, 1, none⟩ = some (.int .i64 0) := by rw [hwq]; simp [go_sem]
      have r2 : wq.cell? ⟨w.heap.size, 2, none⟩ = some (.slice none 0 0) := by rw [hwq]; simp [go_sem]
      have r3 : wq.cell? ⟨w.heap.size, 3, none⟩ = some (.int .i64 0) := by rw [hwq]; simp [go_sem]
      have rf : ∀ o, wq.frozen? ⟨w.heap.size, o, none⟩ = false := fun o => by rw [hwq]; simp [go_sem]
      have hz0 : w.heap.size < wq.drew.heap.size := by show w.heap.size < wq.heap.size; rw [hwq]; simp; omega
      rw [← hwq]
      clear hwq zb run hc hc8 c8 HN
      go_region_held3 (fun W => Below w.heap.size w W ∧ W.cell? ⟨w.heap.size + 1, 0, none⟩ = some (.bool false) ∧ W.cell? ⟨w.heap.size + 1, 1, none⟩ = some (.int .i64 id) ∧ W.cell? ⟨w.heap.size + 1, 2, none⟩ = some (.slice none 0 0) ∧ W.cell? ⟨w.heap.size + 1, 3, none⟩ = some (.int .i64 oo))
        ((first | exact keepS4 h0 (Below.drew (Below.refl _ _)) | exact hS3 | exact unKeep4_14 hS3 _ _ _ _))
        (first | (go_at_call 10; refine (HF.out _).mono ?_; rintro e w3 ⟨rfl, hb3⟩; have hS3 := keepS4 (keepS4 h0 (Below.drew (Below.refl _ _))) hb3; have e0 := cell_keep hb3 (cell_keep (Below.drew (Below.refl _ _)) r0); have e1 := cell_keep hb3 (cell_keep (Below.drew (Below.refl _ _)) r1); have e2 := cell_keep hb3 (cell_keep (Below.drew (Below.refl _ _)) r2); have e3 := cell_keep hb3 (cell_keep (Below.drew (Below.refl _ _)) r3); have ef' := fun o => ((bcell hb3).2 w.heap.size o hz0).trans (rf o)))
      have hB3 : Below w.heap.size w w3 := hS3.1
      clear hS3 hb3 h0 HF
      go_wp2
      refine bodyPost_ret (v := .tuple #[.agg #[.bool false, .int .i64 id, .slice none 0 0, .int .i64 oo], .bool (ef == 0)]) (by simp [results, Tryz.results79, go_sem, e0, e1, e2, e3, ef']) rfl ⟨rfl, ?_⟩
      iterate 4 (refine bset ?_ (by simp) _)
      exact hB3
  · have HD : Hid (outIn14 ys = .tuple #[.agg #[.bool false, .int .i64 0, .slice none 0 0, .int .i64 0], .bool false]) := by show _ = _; unfold outIn14; rw [if_neg h9]
    have hd : ((ys.length : Int) != 9) = true := by simp only [bne_iff_ne, ne_eq]; omega
    clear hx hX h9
    rw [HD.out]
    generalize ys.length = n at *
    go_enter Tryz.func79, Tryz.ntmps79
    go_wp2
    exact bodyPost_ret (v := .tuple #[.agg #[.bool false, .int .i64 0, .slice none 0 0, .int .i64 0], .bool false]) (by simp [results, Tryz.results79, go_sem]) rfl ⟨rfl, by (repeat (first | exact Below.refl _ _ | assumption | refine Below.drew ?_ | refine balloc ?_ _ | refine bset ?_ (by simp; omega) _ | refine bset ?_ (by simp) _ | refine bstep ?_ (by assumption)))⟩
theorem drop_out14 {xs : List Byte} (h : 1 ≤ xs.length) : (xs.drop 1).length = xs.length - 1 ∧ (xs.drop 1).getD 8 0 = xs.getD 9 0 := ⟨by rw [List.length_drop], by simp [List.getD]⟩
set_option maxRecDepth 20000 in
set_option maxHeartbeats 4000000 in
theorem eventIn_u (x : Value) (xs : List Byte) (w : World) (hx : bytesR.V w x xs) :
    Calls Tryz.prog 47 #[x] w (UnpE14 w xs) := by
  have hX := hx
  obtain ⟨ax, cx, rfl, hcx, hmx, hx⟩ := hx
  unfold maxLen at hmx
  by_cases h0 : xs.length = 0
  · have HD : Hid (unpE xs = errE) := unpE_nil14 h0
    clear hx hX
    rw [h0] at hcx ⊢
    go_enter Tryz.func47, Tryz.ntmps47
    go_wp2
    exact bodyPost_ret (v := .tuple #[.agg #[.bool false, .int .i64 0, .slice none 0 0, .int .i64 0], .bool false]) (by simp [results, Tryz.results47, go_sem]) rfl (unpE_bad14 HD.out (by (repeat (first | exact Below.refl _ _ | assumption | refine Below.drew ?_ | refine balloc ?_ _ | refine bset ?_ (by simp; omega) _ | refine bset ?_ (by simp) _ | refine bstep ?_ (by assumption)))))
  have hl1 : 1 ≤ xs.length := Nat.pos_of_ne_zero h0
  obtain ⟨bb, oo', rfl, hc0⟩ := hx 0 (by omega)
  rw [Nat.add_zero] at hc0
  have hd0 : ((xs.length : Int) == 0) = false := beq_eq_false_iff_ne.2 (by omega)
  have hlt : (0 : Int) < (xs.length : Int) := by omega
  have zb : bb < w.heap.size := World.block_lt_of_cell? w _ hc0
  obtain ⟨a', c', run, hv⟩ := cutL (a := some ⟨bb, oo', none⟩) (n := xs.length) (cap := cx) 1 (by omega) (by omega) hcx
  by_cases h1 : (xs.getD 0 0).val = 1
  · have HD : Hid (unpE xs = if (unpD (xs.drop 1)).code = 0 then ⟨0, ⟨true, (unpD (xs.drop 1)).contract, 0⟩⟩ else errE) := unpE_vote14 h0 h1
    have HC : Hid (∀ W, Below w.heap.size w W → Calls Tryz.prog 78 #[.slice a' (xs.length - (1 : Int).toNat) c'] W fun e w' => ∃ v F, e = .returned v ∧ contRR.O w' W.heap.size F v (unpD (xs.drop 1)) ∧ Below W.heap.size W w') := fun W hW => implUnpC_u _ (xs.drop 1) W (hv W xs rfl (bytesR.below hX hW))
    have g0 : w.cell? ⟨bb, oo', none⟩ = some (.int .u8 1) := by have h := hc0; rw [h1] at h; exact h
    clear hx hX hv hc0 h1
    obtain ⟨D, hD⟩ : ∃ D, unpD (xs.drop 1) = D := ⟨_, rfl⟩
    rw [hD] at HC HD
    clear hD
    obtain ⟨cd, ct⟩ := D
    dsimp only at HC HD
    go_enter Tryz.func47, Tryz.ntmps47
    go_wp2_with fail
    refine (HC.out _ (by (repeat (first | exact Below.refl _ _ | assumption | refine Below.drew ?_ | refine balloc ?_ _ | refine bset ?_ (by simp; omega) _ | refine bset ?_ (by simp) _ | refine bstep ?_ (by assumption))))).mono ?_
    rintro e w1 ⟨v1, F1, rfl, o1, hb1⟩
    obtain ⟨u1, F2, rfl, o2, hF2⟩ := o1
    have HO : Hid (contR.O w1 (w.heap.size + 1) F2 (.agg #[.int .i64 ct.id, u1]) ct) := contR.base o2 (by simp)
    obtain ⟨p, q, e2⟩ := contO_form o2
    simp only [Value.agg.injEq, Array.mk.injEq, List.cons.injEq, and_true, true_and] at e2
    subst e2
    have hB1 : Below w.heap.size w w1 := bstep (by (repeat (first | exact Below.refl _ _ | assumption | refine Below.drew ?_ | refine balloc ?_ _ | refine bset ?_ (by simp; omega) _ | refine bset ?_ (by simp) _ | refine bstep ?_ (by assumption)))) hb1
    have r0 : w1.cell? ⟨w.heap.size, 0, none⟩ = some (.bool false) := cell_keep hb1 (by simp [go_sem])
    have r1 : w1.cell? ⟨w.heap.size, 1, none⟩ = some (.int .i64 0) := cell_keep hb1 (by simp [go_sem])
    have r2 : w1.cell? ⟨w.heap.size, 2, none⟩ = some (.slice none 0 0) := cell_keep hb1 (by simp [go_sem])
    have r3 : w1.cell? ⟨w.heap.size, 3, none⟩ = some (.int .i64 0) := cell_keep hb1 (by simp [go_sem])
    have rf : ∀ o, w1.frozen? ⟨w.heap.size, o, none⟩ = false := fun o => by rw [(bcell hb1).2 _ _ (by simp)]; simp [go_sem]
    have z1 : w.heap.size < w1.heap.size := by have := hb1.size; simp at this; omega
    clear o2 hb1 HC run hF2
    generalize hm : ct.legs.length = m at *
    clear hm
    go_wp2
    have hS0 : (w1.alloc (.cells #[.int .i64 cd, .int .i64 ct.id, .slice p m q] 124)).cell? ⟨w1.heap.size, 0, none⟩ = some (.int .i64 cd) ∧ (w1.alloc (.cells #[.int .i64 cd, .int .i64 ct.id, .slice p m q] 124)).cell? ⟨w1.heap.size, 1, none⟩ = some (.int .i64 ct.id) ∧ (w1.alloc (.cells #[.int .i64 cd, .int .i64 ct.id, .slice p m q] 124)).cell? ⟨w1.heap.size, 2, none⟩ = some (.slice p m q) := ⟨by simp [go_sem], by simp [go_sem], by simp [go_sem]⟩
    obtain ⟨wq, hwq⟩ : ∃ wq, wq = w1.alloc (.cells #[.int .i64 cd, .int .i64 ct.id, .slice p m q] 124) := ⟨_, rfl⟩
    rw [← hwq] at hS0
    have hbq : Below w1.heap.size w1 wq := by rw [hwq]; (repeat (first | exact Below.refl _ _ | assumption | refine Below.drew ?_ | refine balloc ?_ _ | refine bset ?_ (by simp; omega) _ | refine bset ?_ (by simp) _ | refine bstep ?_ (by assumption)))
    rw [← hwq]
    clear hwq
    replace r0 := cell_keep hbq r0
    replace r1 := cell_keep hbq r1
    replace r2 := cell_keep hbq r2
    replace r3 := cell_keep hbq r3
    replace rf : ∀ o, wq.frozen? ⟨w.heap.size, o, none⟩ = false := fun o => by rw [(bcell hbq).2 _ _ z1]; exact rf o
    have HO2 : Hid (contR.O wq (w.heap.size + 1) F2 (.agg #[.int .i64 ct.id, .slice p m q]) ct) := contR.keep HO.out hbq
    have hBq : Below w.heap.size w wq := bstep hB1 hbq
    have z2 : w.heap.size < wq.heap.size := Nat.lt_of_lt_of_le z1 hbq.size
    have hbd : Below wq.heap.size wq wq.drew := Below.drew (Below.refl _ _)
    have hne : ¬ w1.heap.size = w.heap.size := by omega
    have hne' : ¬ w.heap.size = w1.heap.size := by omega
    clear HO hB1 hbq
    go_region_held3 (fun W => W.cell? ⟨w1.heap.size, 0, none⟩ = some (.int .i64 cd) ∧ W.cell? ⟨w1.heap.size, 1, none⟩ = some (.int .i64 ct.id) ∧ W.cell? ⟨w1.heap.size, 2, none⟩ = some (.slice p m q))
      ((first | exact ⟨cell_keep hbd hS0.1, cell_keep hbd hS0.2.1, cell_keep hbd hS0.2.2⟩ | exact ⟨by simp [go_sem, hS0, hne, hne'], by simp [go_sem, hS0, hne, hne'], by simp [go_sem, hS0, hne, hne']⟩)) (first | fail)
    all_goals
      clear hS0
      go_wp2
      refine bodyPost_ret (v := .tuple #[.agg #[.bool true, .int .i64 ct.id, .slice p m q, .int .i64 0], .bool (cd == 0)]) (by simp [results, Tryz.results47, go_sem, r0, r1, r2, r3, rf, z2]) rfl ?_
      refine ⟨.agg #[.bool true, .int .i64 ct.id, .slice p m q, .int .i64 0], F2, ⟨true, ct, 0⟩, ?_, evt_of_cont (i := ct.id) (u := .slice p m q) (contR.base (base := w.heap.size + 1) ?_ (by omega)) true 0, ?_, ?_⟩
      · rw [HD.out]
        by_cases hc : cd = 0
        · rw [if_pos hc, hc]
          rfl
        · rw [if_neg hc]
          have : (cd == 0) = false := by simpa using hc
          rw [this]
          rfl
      · refine contR.keep ?_ (Below.drew (Below.refl _ _))
        iterate 4 (refine contR.set ?_ _ (by simp))
        exact HO2.out
      · intro h
        rw [HD.out] at h ⊢
        by_cases hc : cd = 0
        · rw [if_pos hc]
        · rw [if_neg hc] at h
          cases h
      · refine Below.drew ?_
        iterate 4 (refine bset ?_ (by simp) _)
        exact hBq
  by_cases h2 : (xs.getD 0 0).val = 2
  · obtain ⟨hdl, hd9⟩ := drop_out14 hl1
    have HC : Hid (∀ W, Below w.heap.size w W → Calls Tryz.prog 79 #[.slice a' (xs.length - (1 : Int).toNat) c'] W fun e w' => e = .returned (outIn14 (xs.drop 1)) ∧ Below W.heap.size W w') := fun W hW => outcomeIn_u _ (xs.drop 1) W (hv W xs rfl (bytesR.below hX hW))
    have g0 : w.cell? ⟨bb, oo', none⟩ = some (.int .u8 2) := by have h := hc0; rw [h2] at h; exact h
    have HV : Hid (∃ (i o : Int) (b : Bool), outIn14 (xs.drop 1) = .tuple #[.agg #[.bool false, .int .i64 i, .slice none 0 0, .int .i64 o], .bool b] ∧ b = decide ((unpE xs).code = 0) ∧ ((unpE xs).code = 0 → unpE xs = ⟨0, ⟨false, ⟨i, []⟩, o⟩⟩)) := by
      show ∃ _, _
      by_cases h10 : xs.length = 10
      · have e1 : unpE xs = if evtF (outE xs) = 0 then ⟨0, outE xs⟩ else errE := unpE_out14 h0 h1 ⟨h2, h10⟩
        have e2 : outE xs = ⟨false, ⟨IntKind.i64.wrap (hiN ((xs.drop 1).take 8)), []⟩, ((xs.getD 9 0).val : Int)⟩ := rfl
        refine ⟨IntKind.i64.wrap (hiN ((xs.drop 1).take 8)), ((xs.getD 9 0).val : Int), evtF (outE xs) == 0, ?_, ?_, ?_⟩
        · unfold outIn14
          rw [if_pos (by omega), hd9, ← e2]
        · rw [e1]
          by_cases hc : evtF (outE xs) = 0
          · rw [if_pos hc, hc]; rfl
          · rw [if_neg hc]
            have : (evtF (outE xs) == 0) = false := by simpa using hc
            rw [this]; rfl
        · intro h
          rw [e1] at h ⊢
          by_cases hc : evtF (outE xs) = 0
          · rw [if_pos hc, e2]
          · rw [if_neg hc] at h; cases h
      · have e1 : unpE xs = errE := unpE_no14 h0 h1 (fun h => h10 h.2)
        refine ⟨0, 0, false, ?_, ?_, ?_⟩
        · unfold outIn14
          rw [if_neg (by omega)]
        · rw [e1]; rfl
        · intro h
          rw [e1] at h; cases h
    obtain ⟨i, o, b, e1, e2, e3⟩ := HV.out
    have HE2 : Hid (b = decide ((unpE xs).code = 0)) := e2
    have HE3 : Hid ((unpE xs).code = 0 → unpE xs = ⟨0, ⟨false, ⟨i, []⟩, o⟩⟩) := e3
    rw [e1] at HC
    clear hx hX hv hc0 h1 h2 hdl hd9 HV e1 e2 e3
    go_enter Tryz.func47, Tryz.ntmps47
    go_wp2_with fail
    refine (HC.out _ (by (repeat (first | exact Below.refl _ _ | assumption | refine Below.drew ?_ | refine balloc ?_ _ | refine bset ?_ (by simp; omega) _ | refine bset ?_ (by simp) _ | refine bstep ?_ (by assumption))))).mono ?_
    rintro e w1 ⟨rfl, hb1⟩
    have hB1 : Below w.heap.size w w1 := bstep (by (repeat (first | exact Below.refl _ _ | assumption | refine Below.drew ?_ | refine balloc ?_ _ | refine bset ?_ (by simp; omega) _ | refine bset ?_ (by simp) _ | refine bstep ?_ (by assumption)))) hb1
    have r0 : w1.cell? ⟨w.heap.size, 0, none⟩ = some (.bool false) := cell_keep hb1 (by simp [go_sem])
    have r1 : w1.cell? ⟨w.heap.size, 1, none⟩ = some (.int .i64 0) := cell_keep hb1 (by simp [go_sem])
    have r2 : w1.cell? ⟨w.heap.size, 2, none⟩ = some (.slice none 0 0) := cell_keep hb1 (by simp [go_sem])
    have r3 : w1.cell? ⟨w.heap.size, 3, none⟩ = some (.int .i64 0) := cell_keep hb1 (by simp [go_sem])
    have rf : ∀ o, w1.frozen? ⟨w.heap.size, o, none⟩ = false := fun o => by rw [(bcell hb1).2 _ _ (by simp)]; simp [go_sem]
    have z1 : w.heap.size < w1.heap.size := by have := hb1.size; simp at this; omega
    clear hb1 HC run
    go_wp2
    refine bodyPost_ret (v := .tuple #[.agg #[.bool false, .int .i64 i, .slice none 0 0, .int .i64 o], .bool b]) (by simp [results, Tryz.results47, go_sem, r0, r1, r2, r3, rf, z1]) rfl ?_
    refine ⟨_, none_, ⟨false, ⟨i, []⟩, o⟩, by rw [HE2.out], evt_nil14 _ _ _ _ _, HE3.out, ?_⟩
    iterate 4 (refine bset ?_ (by simp) _)
    exact hB1
  · have HD : Hid (unpE xs = errE) := unpE_no14 h0 h1 (fun h => h2 h.1)
    have hd1 : (((xs.getD 0 0).val : Int) == 1) = false := beq_eq_false_iff_ne.2 (by omega)
    have hd2 : (((xs.getD 0 0).val : Int) == 2) = false := beq_eq_false_iff_ne.2 (by omega)
    clear hx hX hv run h0 h1 h2 hl1
    generalize ((xs.getD 0 0).val : Int) = q at *
    generalize xs.length = n at *
    go_enter Tryz.func47, Tryz.ntmps47
    go_wp2
    exact bodyPost_ret (v := .tuple #[.agg #[.bool false, .int .i64 0, .slice none 0 0, .int .i64 0], .bool false]) (by simp [results, Tryz.results47, go_sem]) rfl (unpE_bad14 HD.out (by (repeat (first | exact Below.refl _ _ | assumption | refine Below.drew ?_ | refine balloc ?_ _ | refine bset ?_ (by simp; omega) _ | refine bset ?_ (by simp) _ | refine bstep ?_ (by assumption)))))
set_option maxHeartbeats 2000000 in
theorem implUnpE_u (x : Value) (xs : List Byte) (w : World) (hx : bytesR.V w x xs) :
    Calls Tryz.prog 20 #[x] w fun e w' => ∃ v F, e = .returned v ∧ evtRR.O w' w.heap.size F v (unpE xs) ∧ Below w.heap.size w w' := by
  have HU : Hid (∀ W, Below w.heap.size w W → Calls Tryz.prog 47 #[x] W (UnpE14 W xs)) := fun W hW => eventIn_u x xs W (bytesR.below hx hW)
  have HZ : Hid (¬ (unpE xs).code = 0 → unpE xs = errE) := unpE_err14
  obtain ⟨ax, cx, rfl, _⟩ := hx
  go_enter Tryz.func20, Tryz.ntmps20
  go_wp2_with fail
  refine (HU.out _ (by (repeat (first | exact Below.refl _ _ | assumption | refine Below.drew ?_ | refine balloc ?_ _ | refine bset ?_ (by simp; omega) _ | refine bset ?_ (by simp) _ | refine bstep ?_ (by assumption))))).mono ?_
  rintro e w1 ⟨v1, F1, y1, rfl, o1, hy, hb1⟩
  obtain ⟨p, q, rfl⟩ := evtO_form o1
  have hB1 : Below w.heap.size w w1 := bstep (by (repeat (first | exact Below.refl _ _ | assumption | refine Below.drew ?_ | refine balloc ?_ _ | refine bset ?_ (by simp; omega) _ | refine bset ?_ (by simp) _ | refine bstep ?_ (by assumption)))) hb1
  have r0 : w1.cell? ⟨w.heap.size, 0, none⟩ = some (.int .i64 0) := cell_keep hb1 (by simp [go_sem])
  have r1 : w1.cell? ⟨w.heap.size, 1, none⟩ = some (.bool false) := cell_keep hb1 (by simp [go_sem])
  have r2 : w1.cell? ⟨w.heap.size, 2, none⟩ = some (.int .i64 0) := cell_keep hb1 (by simp [go_sem])
  have r3 : w1.cell? ⟨w.heap.size, 3, none⟩ = some (.slice none 0 0) := cell_keep hb1 (by simp [go_sem])
  have r4 : w1.cell? ⟨w.heap.size, 4, none⟩ = some (.int .i64 0) := cell_keep hb1 (by simp [go_sem])
  have rf : ∀ o, w1.frozen? ⟨w.heap.size, o, none⟩ = false := fun o => by rw [(bcell hb1).2 _ _ (by simp)]; simp [go_sem]
  have hz : w.heap.size < w1.heap.size := by have := hb1.size; simp at this; omega
  have HO : Hid (evtR.O w1 (w.heap.size + 1) F1 (.agg #[.bool y1.vote, .int .i64 y1.con.id, .slice p y1.con.legs.length q, .int .i64 y1.out]) y1) := evtR.base o1 (by simp)
  clear o1 hb1 HU
  by_cases hc : (unpE xs).code = 0
  · have HD : Hid (unpE xs = ⟨0, y1⟩) := hy hc
    have e1 : decide ((unpE xs).code = 0) = true := decide_eq_true hc
    rw [e1]
    clear e1 hc hy HZ
    generalize y1.con.legs.length = m at *
    go_wp2
    refine bodyPost_ret (v := .agg #[.int .i64 0, .bool y1.vote, .int .i64 y1.con.id, .slice p m q, .int .i64 y1.out]) (by simp [results, Tryz.results20, go_sem, r0, r1, r2, r3, r4, rf, hz]) rfl ⟨_, F1, rfl, ?_, ?_⟩
    · rw [HD.out]
      refine evtR_of14 (evtR.base (base := w.heap.size + 1) ?_ (by omega))
      refine evtR.alloc ?_ _
      iterate 5 (refine evtR.set ?_ _ (by simp))
      exact HO.out
    · refine balloc ?_ _
      iterate 5 (refine bset ?_ (by simp) _)
      exact hB1
  · have HD : Hid (unpE xs = errE) := HZ.out hc
    have e1 : decide ((unpE xs).code = 0) = false := decide_eq_false hc
    rw [e1]
    clear e1 hc hy HZ
    generalize y1.con.legs.length = m at *
    go_wp2
    refine bodyPost_ret (v := .agg #[.int .i64 5, .bool false, .int .i64 0, .slice none 0 0, .int .i64 0]) (by simp [results, Tryz.results20, go_sem, r0, r1, r2, r3, r4, rf, hz]) rfl ⟨_, none_, rfl, ?_, ?_⟩
    · rw [HD.out]
      exact errE_O14 _ _
    · refine balloc ?_ _
      iterate 5 (refine bset ?_ (by simp) _)
      exact hB1
end Go.Proofs.YtecfelacdapdgaaGreat

/-
  EventsOf on both sides.
-/
set_option linter.unusedSimpArgs false
set_option linter.unusedVariables false
namespace Go.Proofs.YtecfelacdapdgaaGreat
open Go.RowKit
set_option linter.unusedSectionVars false
variable [DecidableEq Leg] [Inhabited Leg] [DecidableEq Cont] [Inhabited Cont] [DecidableEq Evt] [Inhabited Evt] [DecidableEq EvtsR] [Inhabited EvtsR] [DecidableEq EvtR] [Inhabited EvtR] [DecidableEq BytesR] [Inhabited BytesR] [DecidableEq ContR] [Inhabited ContR] [DecidableEq Logg] [Inhabited Logg] [DecidableEq LoggR] [Inhabited LoggR] [DecidableEq RecsR] [Inhabited RecsR] [DecidableEq Bal] [Inhabited Bal] [DecidableEq Jrn] [Inhabited Jrn] [DecidableEq Rw] [Inhabited Rw] [DecidableEq Ledg] [Inhabited Ledg] [DecidableEq LedgR] [Inhabited LedgR] [DecidableEq OutcR] [Inhabited OutcR] [DecidableEq Mrk] [Inhabited Mrk] [DecidableEq Shd] [Inhabited Shd] [DecidableEq ShdR] [Inhabited ShdR]
attribute [local go_sem ↓] Go.wp_at_zero Go.wp_at_succ

theorem jrn_open {w : World} {x : Value} {d : Jrn} (hx : jrnR.V w x d) : ∃ a0 c0 a1 c1 a2 c2, x = .agg #[.int .i64 d.idx, .slice a0 d.start.length c0, .slice a1 d.log.synced.length c1, .slice a2 d.log.loose.length c2] ∧ balsR.V w (.slice a0 d.start.length c0) d.start ∧ loggR.V w (.agg #[.slice a1 d.log.synced.length c1, .slice a2 d.log.loose.length c2]) d.log := by
  obtain ⟨u0, u1, u2, rfl, h0, h1⟩ := hx
  obtain ⟨a0, c0, rfl⟩ := bals_form h0
  obtain ⟨a1, a2, c1, c2, e⟩ := logg_form h1
  simp only [Value.agg.injEq, Array.mk.injEq, List.cons.injEq, and_true] at e
  obtain ⟨rfl, rfl⟩ := e
  exact ⟨a0, c0, a1, c1, a2, c2, rfl, h0, h1⟩
theorem evtsR_code14 (w : World) (base : Nat) (c : Int) : evtsRR.O w base (fun _ => False) (.agg #[.int .i64 c, .slice none 0 0]) ⟨c, []⟩ := ⟨_, _, rfl, evts_nil w base, fun _ => Iff.rfl⟩
theorem evsD_bad {d : Logg} (h : ¬ logF d = 0) : evsD d = ⟨logF d, []⟩ := by
  rcases logF_cases d with ⟨h0, _⟩ | h0
  · exact absurd h0 h
  · unfold evsD
    rw [if_neg h, h0]
theorem evsD_ok {d : Logg} (h : logF d = 0) : evsD d = evsR (d.synced ++ d.loose) := by unfold evsD; rw [if_pos h]
set_option maxHeartbeats 4000000 in
theorem specEvs_u (x : Value) (d : Jrn) (w : World) (hx : jrnR.V w x d) (hn : wtLogg d.log ≤ 1048576) :
    Calls Tryz.prog 27 #[x] w fun e w' => ∃ v F, e = .returned v ∧ evtsRR.O w' w.heap.size F v (evsD d.log) ∧ Below w.heap.size w w' := by
  obtain ⟨a0, c0, a1, c1, a2, c2, rfl, hbs, hlg⟩ := jrn_open hx
  have HF : Hid (∀ W, Below w.heap.size w W → Calls Tryz.prog 51 #[.agg #[.slice a1 d.log.synced.length c1, .slice a2 d.log.loose.length c2]] W fun e w' => e = .returned (.int .i64 (logF d.log)) ∧ Below W.heap.size W w') := fun W hW => specLogF_any _ d.log W (loggR.below hlg hW) hn
  have HE : Hid (logF d.log = 0 → ∀ W, Below w.heap.size w W → Calls Tryz.prog 52 #[.agg #[.slice a1 d.log.synced.length c1, .slice a2 d.log.loose.length c2]] W fun e w' => ∃ v F, e = .returned (.tuple #[v, .int .i64 (evsD d.log).code]) ∧ evtsR.O w' W.heap.size F v (evsD d.log).evts ∧ Below W.heap.size W w') := fun h W hW => by rw [evsD_ok h]; exact l14Events_u _ d.log W (loggR.below hlg hW) h
  have HB : Hid (¬ logF d.log = 0 → evsD d.log = ⟨logF d.log, []⟩) := evsD_bad
  clear hx hbs hlg hn
  generalize evsD d.log = Z at *
  generalize logF d.log = lf at *
  generalize d.log.synced.length = n1 at *
  generalize d.log.loose.length = n2 at *
  generalize d.start.length = n0 at *
  generalize d.idx = ix at *
  go_enter Tryz.func27, Tryz.ntmps27
  go_wp2_with fail
  refine (HF.out _ (by (repeat (first | exact Below.refl _ _ | assumption | refine Below.drew ?_ | refine balloc ?_ _ | refine bset ?_ (by simp; omega) _ | refine bset ?_ (by simp) _ | refine bstep ?_ (by assumption))))).mono ?_
  rintro e w1 ⟨rfl, hb1⟩
  have hB1 : Below w.heap.size w w1 := bstep (by (repeat (first | exact Below.refl _ _ | assumption | refine Below.drew ?_ | refine balloc ?_ _ | refine bset ?_ (by simp; omega) _ | refine bset ?_ (by simp) _ | refine bstep ?_ (by assumption)))) hb1
  have y0 : w1.cell? ⟨w.heap.size, 0, none⟩ = some (.int .i64 ix) := cell_keep hb1 (by simp [go_sem])
  have y1 : w1.cell? ⟨w.heap.size, 1, none⟩ = some (.slice a0 n0 c0) := cell_keep hb1 (by simp [go_sem])
  have y2 : w1.cell? ⟨w.heap.size, 2, none⟩ = some (.slice a1 n1 c1) := cell_keep hb1 (by simp [go_sem])
  have y3 : w1.cell? ⟨w.heap.size, 3, none⟩ = some (.slice a2 n2 c2) := cell_keep hb1 (by simp [go_sem])
  have r0 : w1.cell? ⟨w.heap.size + 1, 0, none⟩ = some (.int .i64 0) := cell_keep hb1 (by simp [go_sem])
  have r1 : w1.cell? ⟨w.heap.size + 1, 1, none⟩ = some (.slice none 0 0) := cell_keep hb1 (by simp [go_sem])
  have hrf : (∀ o, w1.frozen? ⟨w.heap.size + 1, o, none⟩ = false) ∧ w.heap.size + 1 < w1.heap.size := (boxNew2 hb1 (by simp)).2.2
  clear hb1 HF
  by_cases hc : lf = 0
  · have HE' : Hid _ := HE.out hc
    have hz := hrf.2
    clear HE HB
    subst hc
    go_wp2_with fail
    refine (HE'.out _ (by (repeat (first | exact Below.refl _ _ | assumption | refine Below.drew ?_ | refine balloc ?_ _ | refine bset ?_ (by simp; omega) _ | refine bset ?_ (by simp) _ | refine bstep ?_ (by assumption))))).mono ?_
    rintro e w2 ⟨v2, F2, rfl, o2, hb2⟩
    have hB2 : Below w.heap.size w w2 := bstep hB1 hb2
    replace r0 := cell_keep hb2 r0
    replace r1 := cell_keep hb2 r1
    obtain ⟨rf, rz⟩ := boxKeep hrf hb2
    obtain ⟨p, q, rfl⟩ := evts_form (evtsR.ofO o2)
    have HO : Hid (evtsR.O w2 (w.heap.size + 2) F2 (.slice p Z.evts.length q) Z.evts) := evtsR.base o2 (by omega)
    clear o2 hb2 HE'
    generalize Z.evts.length = m at *
    go_wp2
    refine bodyPost_ret (v := .agg #[.int .i64 Z.code, .slice p m q]) (by simp [results, Tryz.results27, go_sem, r0, r1, rf]) rfl ⟨_, F2, rfl, ?_, by (repeat (first | exact Below.refl _ _ | assumption | refine Below.drew ?_ | refine balloc ?_ _ | refine bset ?_ (by simp; omega) _ | refine bset ?_ (by simp) _ | refine bstep ?_ (by assumption)))⟩
    exact ⟨_, F2, rfl, evtsR.base (base := w.heap.size + 2) (evtsR.set (evtsR.set HO.out _ (by simp)) _ (by simp)) (by omega), fun b => Iff.rfl⟩
  · have HD : Hid (Z = ⟨lf, []⟩) := HB.out hc
    have hc' : (lf != 0) = true := by simp [hc]
    obtain ⟨rf, rz⟩ := hrf
    clear HE HB hc
    go_wp2
    refine bodyPost_ret (v := .agg #[.int .i64 lf, .slice none 0 0]) (by simp [results, Tryz.results27, go_sem, r0, r1, rf]) rfl ?_
    rw [HD.out]
    first | exact ⟨_, fun _ => False, rfl, evtsR_code14 _ _ _, by (repeat (first | exact Below.refl _ _ | assumption | refine Below.drew ?_ | refine balloc ?_ _ | refine bset ?_ (by simp; omega) _ | refine bset ?_ (by simp) _ | refine bstep ?_ (by assumption)))⟩ | exact ⟨_, rfl, ⟨fun _ => False, evtsR_code14 _ _ _⟩, by (repeat (first | exact Below.refl _ _ | assumption | refine Below.drew ?_ | refine balloc ?_ _ | refine bset ?_ (by simp; omega) _ | refine bset ?_ (by simp) _ | refine bstep ?_ (by assumption)))⟩
set_option maxRecDepth 20000 in
set_option maxHeartbeats 8000000 in
theorem implEvs_u (x : Value) (d : Jrn) (w : World) (hx : jrnR.V w x d) (hn : wtLogg d.log ≤ 1048576) :
    Calls Tryz.prog 29 #[x] w fun e w' => ∃ v F, e = .returned v ∧ evtsRR.O w' w.heap.size F v (evsD d.log) ∧ Below w.heap.size w w' := by
  obtain ⟨a0, c0, a1, c1, a2, c2, rfl, hbs, hlg⟩ := jrn_open hx
  have HR : Hid (∀ W, Below w.heap.size w W → Calls Tryz.prog 55 #[.agg #[.slice a1 d.log.synced.length c1, .slice a2 d.log.loose.length c2]] W fun e w' => ∃ v F, e = .returned v ∧ recsRR.O w' W.heap.size F v (readD d.log) ∧ Below W.heap.size W w') := fun W hW => implRead_u _ d.log W (loggR.below hlg hW) hn
  have HZ : Hid ((¬ (readD d.log).code = 0 → evsD d.log = ⟨(readD d.log).code, []⟩) ∧ ((readD d.log).code = 0 → readD d.log = ⟨0, recU (d.log.synced ++ d.log.loose), recL (d.log.synced ++ d.log.loose)⟩ ∧ evsD d.log = evsR (d.log.synced ++ d.log.loose) ∧ d.log.synced.length + d.log.loose.length ≤ 6000)) := by
    show _ ∧ _
    rcases logF_cases d.log with ⟨h0, hl⟩ | h0
    · have e1 : readD d.log = ⟨0, recU (d.log.synced ++ d.log.loose), recL (d.log.synced ++ d.log.loose)⟩ := by
        unfold readD recsD
        rw [if_pos h0, if_pos (by rw [List.length_append]; omega)]
      refine ⟨fun h => ?_, fun _ => ⟨e1, evsD_ok h0, hl⟩⟩
      rw [e1] at h
      exact absurd rfl h
    · have e1 : readD d.log = ⟨2, 0, []⟩ := by unfold readD; rw [if_neg (by omega)]
      refine ⟨fun h => ?_, fun h => ?_⟩
      · rw [e1, evsD_bad (by omega), h0]
      · rw [e1] at h; cases h
  have hrl := recU_le (d.log.synced ++ d.log.loose)
  have hrc := recL_len14 (d.log.synced ++ d.log.loose)
  have hbl : (d.log.synced ++ d.log.loose).length = d.log.synced.length + d.log.loose.length := List.length_append
  clear hx hbs hlg hn
  generalize hn1 : d.log.synced.length = n1 at *
  generalize hn2 : d.log.loose.length = n2 at *
  clear hn1 hn2
  generalize d.log.synced ++ d.log.loose = xs at *
  have HB1 : Hid (allE (recL xs) = false ∨ ¬ recU xs = xs.length → evsR xs = ⟨5, []⟩) := evsR_bad
  have HB2 : Hid (allE (recL xs) = true → recU xs = xs.length → ¬ (recL xs).length ≤ 60 → evsR xs = ⟨2, []⟩) := evsR_many
  have HB3 : Hid (allE (recL xs) = true → recU xs = xs.length → (recL xs).length ≤ 60 → evsR xs = ⟨0, evL (recL xs)⟩) := evsR_ok
  generalize evsD d.log = Z at *
  generalize evsR xs = Z' at *
  generalize hus : recU xs = us at *
  clear hus
  generalize recL xs = rs at *
  obtain ⟨D, hD⟩ : ∃ D, readD d.log = D := ⟨_, rfl⟩
  rw [hD] at HR HZ
  clear hD
  obtain ⟨dc, du, dr⟩ := D
  dsimp only at HR HZ
  have HBL : Hid (xs.length = n1 + n2) := hbl
  have HRL : Hid (us ≤ n1 + n2 ∧ rs.length ≤ n1 + n2) := by show _ ∧ _; omega
  clear hbl hrl hrc
  generalize d.start.length = n0 at *
  generalize d.idx = ix at *
  go_enter Tryz.func29, Tryz.ntmps29
  go_wp2_with fail
  refine (HR.out _ (by (repeat (first | exact Below.refl _ _ | assumption | refine Below.drew ?_ | refine balloc ?_ _ | refine bset ?_ (by simp; omega) _ | refine bset ?_ (by simp) _ | refine bstep ?_ (by assumption))))).mono ?_
  rintro e w1 ⟨v1, F1, rfl, o1, hb1⟩
  obtain ⟨u1, Fr, rfl, o1, _⟩ := o1
  dsimp only at o1
  obtain ⟨ar, cr, rfl, hrc2, hrm, hra⟩ := recs_at (bytessR.ofO o1)
  unfold maxLen at hrm
  have hB1 : Below w.heap.size w w1 := bstep (by (repeat (first | exact Below.refl _ _ | assumption | refine Below.drew ?_ | refine balloc ?_ _ | refine bset ?_ (by simp; omega) _ | refine bset ?_ (by simp) _ | refine bstep ?_ (by assumption)))) hb1
  have y0 : w1.cell? ⟨w.heap.size, 0, none⟩ = some (.int .i64 ix) := cell_keep hb1 (by simp [go_sem])
  have y1 : w1.cell? ⟨w.heap.size, 1, none⟩ = some (.slice a0 n0 c0) := cell_keep hb1 (by simp [go_sem])
  have y2 : w1.cell? ⟨w.heap.size, 2, none⟩ = some (.slice a1 n1 c1) := cell_keep hb1 (by simp [go_sem])
  have y3 : w1.cell? ⟨w.heap.size, 3, none⟩ = some (.slice a2 n2 c2) := cell_keep hb1 (by simp [go_sem])
  have r0 : w1.cell? ⟨w.heap.size + 1, 0, none⟩ = some (.int .i64 0) := cell_keep hb1 (by simp [go_sem])
  have r1 : w1.cell? ⟨w.heap.size + 1, 1, none⟩ = some (.slice none 0 0) := cell_keep hb1 (by simp [go_sem])
  have hrf : (∀ o, w1.frozen? ⟨w.heap.size + 1, o, none⟩ = false) ∧ w.heap.size + 1 < w1.heap.size := (boxNew2 hb1 (by simp)).2.2
  have hz := hrf.2
  have hz0 : w.heap.size < w1.heap.size := by omega
  clear hb1 HR o1
  by_cases hc : dc = 0
  rotate_left
  · have HD : Hid (Z = ⟨dc, []⟩) := HZ.out.1 hc
    have hc' : (dc != 0) = true := by simp [hc]
    obtain ⟨rf, rz⟩ := hrf
    clear hc HZ hra HB1 HB2 HB3
    generalize dr.length = m at *
    go_wp2
    refine bodyPost_ret (v := .agg #[.int .i64 dc, .slice none 0 0]) (by simp [results, Tryz.results29, go_sem, r0, r1, rf, hz]) rfl ?_
    rw [HD.out]
    have hbz : ∀ (o : Obj), Below w.heap.size w (((w1.alloc o).setCell ⟨w.heap.size + 1, 0, none⟩ (.int .i64 dc)).setCell ⟨w.heap.size + 1, 1, none⟩ (.slice none 0 0)) := fun o => bset (bset (balloc hB1 o) (by simp) _) (by simp) _
    have hbz2 : ∀ (o : Obj), Below w.heap.size w (((w1.setCell ⟨w.heap.size + 1, 0, none⟩ (.int .i64 dc)).setCell ⟨w.heap.size + 1, 1, none⟩ (.slice none 0 0)).alloc o) := fun o => balloc (bset (bset hB1 (by simp) _) (by simp) _) o
    first | exact ⟨_, fun _ => False, rfl, evtsR_code14 _ _ _, hbz2 _⟩ | exact ⟨_, rfl, ⟨fun _ => False, evtsR_code14 _ _ _⟩, hbz2 _⟩ | exact ⟨_, fun _ => False, rfl, evtsR_code14 _ _ _, hbz _⟩ | exact ⟨_, rfl, ⟨fun _ => False, evtsR_code14 _ _ _⟩, hbz _⟩
  obtain ⟨hd, hZ', hl6⟩ := HZ.out.2 hc
  simp only [RecsR.mk.injEq] at hd
  obtain ⟨_, hdu, hdr⟩ := hd
  subst hc
  rw [hdr] at hra hrc2 ⊢
  rw [hdu]
  have HZe : Hid (Z = Z') := hZ'
  clear HZ hZ' hdu hdr
  have HX : Hid (∀ k, k < rs.length → ∃ b o u, ar = some ⟨b, o, none⟩ ∧ w1.cell? ⟨b, o + k, none⟩ = some u ∧ bytesR.V w1 u (rs.getD k default)) := hra
  clear hra
  have HU : Hid (∀ k, k < rs.length → evL (rs.take (k + 1)) = evL (rs.take k) ++ [(unpE (rs.getD k default)).evt]) := fun k hk => evL_snoc hk
  have HA : Hid ((∀ j, j < rs.length → (unpE (rs.getD j default)).code = 0) → allE rs = true) := allE_of
  have HAn : Hid (∀ k, k < rs.length → ¬ (unpE (rs.getD k default)).code = 0 → allE rs = false) := fun k hk h => allE_at hk h
  have HL0 : Hid (∀ k, k ≤ rs.length → (evL (rs.take k)).length = k) := fun k hk => by show _ = _; rw [evL_len, List.length_take]; omega
  have HT : Hid (evL (rs.take rs.length) = evL rs) := by show _ = _; rw [List.take_length]
  generalize hn : rs.length = n at *
  clear hn
  have hw1 : IntKind.i64.wrap ((n1 : Int) + n2) = n1 + n2 := by rw [IntKind.wrap_i64]; omega
  by_cases hu : us = n1 + n2
  rotate_left
  · have HD : Hid (Z = ⟨5, []⟩) := by show _ = _; rw [HZe.out]; exact HB1.out (.inr (by rw [HBL.out]; exact hu))
    have hd : ((us : Int) != (n1 : Int) + n2) = true := by simp only [bne_iff_ne, ne_eq]; omega
    obtain ⟨rf, rz⟩ := hrf
    clear hu HX HU HA HAn HL0 HT HB1 HB2 HB3 HRL
    go_wp2
    refine bodyPost_ret (v := .agg #[.int .i64 5, .slice none 0 0]) (by simp [results, Tryz.results29, go_sem, r0, r1, rf, hz]) rfl ?_
    rw [HD.out]
    have hbz : ∀ (o : Obj), Below w.heap.size w (((w1.alloc o).setCell ⟨w.heap.size + 1, 0, none⟩ (.int .i64 5)).setCell ⟨w.heap.size + 1, 1, none⟩ (.slice none 0 0)) := fun o => bset (bset (balloc hB1 o) (by simp) _) (by simp) _
    have hbz2 : ∀ (o : Obj), Below w.heap.size w (((w1.setCell ⟨w.heap.size + 1, 0, none⟩ (.int .i64 5)).setCell ⟨w.heap.size + 1, 1, none⟩ (.slice none 0 0)).alloc o) := fun o => balloc (bset (bset hB1 (by simp) _) (by simp) _) o
    first | exact ⟨_, fun _ => False, rfl, evtsR_code14 _ _ _, hbz2 _⟩ | exact ⟨_, rfl, ⟨fun _ => False, evtsR_code14 _ _ _⟩, hbz2 _⟩ | exact ⟨_, fun _ => False, rfl, evtsR_code14 _ _ _, hbz _⟩ | exact ⟨_, rfl, ⟨fun _ => False, evtsR_code14 _ _ _⟩, hbz _⟩
  have hu' : us = xs.length := by rw [HBL.out]; exact hu
  have HB1' : Hid (allE rs = false → Z = ⟨5, []⟩) := fun h => by rw [HZe.out]; exact HB1.out (.inl h)
  have HB2' : Hid (allE rs = true → ¬ n ≤ 60 → Z = ⟨2, []⟩) := fun h h1 => by rw [HZe.out]; exact HB2.out h hu' h1
  have HB3' : Hid (allE rs = true → n ≤ 60 → Z = ⟨0, evL rs⟩) := fun h h1 => by rw [HZe.out]; exact HB3.out h hu' h1
  have hd : ((us : Int) != (n1 : Int) + n2) = false := by simp only [bne_eq_false_iff_eq]; omega
  clear hu hu' HB1 HB2 HB3 HZe
  go_wp2
  go_loopw [4, 33] (fun s i w' => ∃ (k : Nat) (a : Option Addr) (c : Nat) (F : Nat → Prop), k ≤ n ∧ i = .int .i64 k ∧ s = .slice a k c ∧ Hid (evtsR.O w' w1.heap.size F (.slice a k c) (evL (rs.take k))) ∧ Hid (∀ j, j < k → (unpE (rs.getD j default)).code = 0) ∧ Below w1.heap.size w1 w') (fun s i _ => n - (intOf i).toNat)
  case atStart => exact ⟨0, none, 0, _, Nat.zero_le _, rfl, rfl, evts_nil _ _, fun j hj => absurd hj (Nat.not_lt_zero _), by (repeat (first | exact Below.refl _ _ | assumption | refine Below.drew ?_ | refine balloc ?_ _ | refine bset ?_ (by simp; omega) _ | refine bset ?_ (by simp) _ | refine bstep ?_ (by assumption)))⟩
  case round =>
    obtain ⟨k, as_, cs_, F, hk, rfl, rfl, HO, HK, hbl⟩ := hrel
    have zr := hbl.size
    have hBr : Below w.heap.size w wr := hB1.trans (hbl.mono (by omega))
    replace r0 := cell_keep hbl r0
    replace r1 := cell_keep hbl r1
    have hrf' := boxKeep hrf hbl
    by_cases hlt : k < n
    · obtain ⟨bx, ox, ux, rfl, g0, hV⟩ := HX.out k hlt
      have HUk := HU.out k hlt
      have HAk := HAn.out k hlt
      obtain ⟨r, hr⟩ : ∃ r, r = rs.getD k default := ⟨_, rfl⟩
      rw [← hr] at hV HUk HAk
      have HRk : Hid (r = rs.getD k default) := hr
      have HE : Hid (evL (rs.take (k + 1)) = evL (rs.take k) ++ [(unpE r).evt]) := HUk
      have HAk' : Hid (¬ (unpE r).code = 0 → allE rs = false) := HAk
      clear hr HUk HAk
      have zb : bx < w1.heap.size := World.block_lt_of_cell? w1 _ g0
      replace g0 := cell_keep hbl g0
      have HCp : Hid (∀ W, Below w1.heap.size w1 W → Calls Tryz.prog 20 #[ux] W fun e w' => ∃ v F, e = .returned v ∧ evtRR.O w' W.heap.size F v (unpE r) ∧ Below W.heap.size W w') := fun W hW => implUnpE_u ux r W (bytesR.below hV hW)
      clear hV
      have k1 : (k : Int) < n := by omega
      go_wp2_with fail
      refine (HCp.out _ (by (repeat (first | exact Below.refl _ _ | assumption | refine Below.drew ?_ | refine balloc ?_ _ | refine bset ?_ (by simp; omega) _ | refine bset ?_ (by simp) _ | refine bstep ?_ (by assumption))))).mono ?_
      rintro e w3 ⟨v3, F3, rfl, o3, hb3⟩
      obtain ⟨u3, F3', rfl, o3, hF3⟩ := o3
      have HEv : Hid (evtR.O w3 wr.heap.size F3' (.agg #[.bool (unpE r).evt.vote, .int .i64 (unpE r).evt.con.id, u3, .int .i64 (unpE r).evt.out]) (unpE r).evt) := o3
      obtain ⟨p, q, e4⟩ := evtO_form o3
      simp only [Value.agg.injEq, Array.mk.injEq, List.cons.injEq, and_true, true_and] at e4
      subst e4
      have hB3 : Below w1.heap.size w1 w3 := hbl.trans (hb3.mono zr)
      have hz3 := hb3.size
      replace r0 := cell_keep hb3 r0
      replace r1 := cell_keep hb3 r1
      obtain ⟨rf3, rz3⟩ := boxKeep hrf' hb3
      clear o3
      have HUr : Hid (unpE r = ⟨(unpE r).code, (unpE r).evt⟩) := rfl
      generalize (unpE r).code = cde at *
      obtain ⟨y3, hy3⟩ : ∃ y3, y3 = (unpE r).evt := ⟨_, rfl⟩
      rw [← hy3] at HE HEv ⊢
      have HYe : Hid (y3 = (unpE r).evt) := hy3
      clear hy3
      by_cases hc : cde = 0
      · have HKn : Hid (∀ j, j < k + 1 → (unpE (rs.getD j default)).code = 0) := fun j hj => by
          by_cases e : j = k
          · rw [e, ← HRk.out, HUr.out]; exact hc
          · exact HK.out j (by omega)
        have HO2 : Hid (evtsR.O w3 w1.heap.size F (.slice as_ k cs_) (evL (rs.take k))) := evtsR.keep HO.out hb3
        have HFl : Hid (∀ b, F b → b < wr.heap.size) := fun b hb => (evtsR.rng HO.out b hb).2
        have HF2 : Hid (∀ b, F3' b → wr.heap.size ≤ b) := fun b hb => (evtR.rng HEv.out b hb).1
        have HU3 : Hid (evtR.O w3 w1.heap.size F3' (.agg #[.bool y3.vote, .int .i64 y3.con.id, .slice p y3.con.legs.length q, .int .i64 y3.out]) y3) := evtR.base HEv.out zr
        have hlk := HL0.out k hk
        subst hc
        clear hb3 HEv HCp HO g0 HK HAk' HRk HUr HYe hF3
        generalize hm : y3.con.legs.length = m at *
        have HM : Hid (y3.con.legs.length = m) := hm
        clear hm
        go_wp2_with (at_builtin; refine wpl_appEv _ rfl _ _ rfl w1.heap.size F F3' _ (evL (rs.take k)) y3 (w3.heap.size + 1) p q rfl rfl ?a1 ?a2 ?a3 ?a4 ?a5 ?a6 ?_)
        case a1 => exact evtsR.alloc (evtsR.alloc HO2.out _) _
        case a2 => rw [HM.out]; exact evtR.alloc (evtR.alloc HU3.out _) _
        case a3 => exact fun b h1 h2 => by have := HFl.out b h1; have := HF2.out b h2; omega
        case a4 => rw [HM.out]; simp [go_sem]
        case a5 => have := HRL.out; rw [hlk]; omega
        case a6 => simp; omega
        intro v4 w4 F4 o4 hb4 _
        rw [← HE.out] at o4
        obtain ⟨a4', c4', e4⟩ := evts_form (evtsR.ofO o4)
        rw [HL0.out (k + 1) (by omega)] at e4
        subst e4
        have HO4 : Hid (evtsR.O w4 w1.heap.size F4 (.slice a4' (k + 1) c4') (evL (rs.take (k + 1)))) := o4
        have hB4 : Below w1.heap.size w1 w4 := Below.trans (by (repeat (first | exact Below.refl _ _ | assumption | refine Below.drew ?_ | refine balloc ?_ _ | refine bset ?_ (by simp; omega) _ | refine bset ?_ (by simp) _ | refine bstep ?_ (by assumption)))) hb4
        clear o4 hb4 HO2 HU3 HFl HF2 hlk r0 r1 rf3 rz3
        go_wp2
        exact ⟨⟨k + 1, a4', c4', F4, by omega, by go_num, rfl, HO4, HKn, hB4⟩, by simp [intOf]; omega⟩
      · have HD : Hid (Z = ⟨5, []⟩) := HB1'.out (HAk'.out hc)
        have h5 : cde = 5 := by
          have := unpE_err14 (xs := r) (by rw [HUr.out]; exact hc)
          rw [HUr.out] at this
          exact congrArg EvtR.code this
        subst h5
        have hBz : Below w.heap.size w w3 := hBr.trans (hb3.mono (by omega))
        clear hb3 HCp HO g0 HK HAk' HRk HUr HYe hF3 HEv hc HE
        generalize y3.con.legs.length = m at *
        go_wp2
        refine bodyPost_ret (v := .agg #[.int .i64 5, .slice none 0 0]) (by simp [results, Tryz.results29, go_sem, r0, r1, rf3, rz3]) rfl ?_
        rw [HD.out]
        have hbz : ∀ (o : Obj), Below w.heap.size w (((w3.alloc o).setCell ⟨w.heap.size + 1, 0, none⟩ (.int .i64 5)).setCell ⟨w.heap.size + 1, 1, none⟩ (.slice none 0 0)) := fun o => bset (bset (balloc hBz o) (by simp) _) (by simp) _
        have hbz2 : ∀ (o : Obj), Below w.heap.size w (((w3.setCell ⟨w.heap.size + 1, 0, none⟩ (.int .i64 5)).setCell ⟨w.heap.size + 1, 1, none⟩ (.slice none 0 0)).alloc o) := fun o => balloc (bset (bset hBz (by simp) _) (by simp) _) o
        first | exact ⟨_, fun _ => False, rfl, evtsR_code14 _ _ _, hbz2 _⟩ | exact ⟨_, rfl, ⟨fun _ => False, evtsR_code14 _ _ _⟩, hbz2 _⟩ | exact ⟨_, fun _ => False, rfl, evtsR_code14 _ _ _, hbz _⟩ | exact ⟨_, rfl, ⟨fun _ => False, evtsR_code14 _ _ _⟩, hbz _⟩
    · have hkn : k = n := by omega
      subst hkn
      have hAl : allE rs = true := HA.out HK.out
      have ho := HO.out
      rw [HT.out] at ho
      have k1 : ¬ (k : Int) < (k : Int) := by omega
      obtain ⟨rf, rz⟩ := hrf'
      by_cases h60 : k ≤ 60
      · have HD : Hid (Z = ⟨0, evL rs⟩) := HB3'.out hAl h60
        have hgt : ¬ (60 : Int) < (k : Int) := by omega
        have hll : (evL rs).length = k := by rw [← HT.out]; exact HL0.out k (Nat.le_refl _)
        have HO2 : Hid (evtsR.O wr (w.heap.size + 2) F (.slice as_ k cs_) (evL rs)) := evtsR.base ho (by omega)
        clear ho HO HX HU HAn HL0 HK HB1' HB2' HB3' HA HT hll
        go_wp2
        refine bodyPost_ret (v := .agg #[.int .i64 0, .slice as_ k cs_]) (by simp [results, Tryz.results29, go_sem, r0, r1, rf, rz]) rfl ?_
        rw [HD.out]
        have HO3 := evtsR.base (base := w.heap.size + 2) (base' := w.heap.size) (evtsR.set (evtsR.set HO2.out (.int .i64 0) (p := ⟨w.heap.size + 1, 0, none⟩) (by simp)) (.slice as_ k cs_) (p := ⟨w.heap.size + 1, 1, none⟩) (by simp)) (by omega)
        first | exact ⟨_, F, rfl, ⟨_, F, rfl, HO3, fun b => Iff.rfl⟩, by (repeat (first | exact Below.refl _ _ | assumption | refine Below.drew ?_ | refine balloc ?_ _ | refine bset ?_ (by simp; omega) _ | refine bset ?_ (by simp) _ | refine bstep ?_ (by assumption)))⟩ | exact ⟨_, rfl, ⟨F, _, F, rfl, HO3, fun b => Iff.rfl⟩, by (repeat (first | exact Below.refl _ _ | assumption | refine Below.drew ?_ | refine balloc ?_ _ | refine bset ?_ (by simp; omega) _ | refine bset ?_ (by simp) _ | refine bstep ?_ (by assumption)))⟩
      · have HD : Hid (Z = ⟨2, []⟩) := HB2'.out hAl h60
        have hgt : (60 : Int) < (k : Int) := by omega
        clear ho HO HX HU HAn HL0 HK HB1' HB2' HB3' HA HT
        go_wp2
        refine bodyPost_ret (v := .agg #[.int .i64 2, .slice none 0 0]) (by simp [results, Tryz.results29, go_sem, r0, r1, rf, rz]) rfl ?_
        rw [HD.out]
        first | exact ⟨_, fun _ => False, rfl, evtsR_code14 _ _ _, by (repeat (first | exact Below.refl _ _ | assumption | refine Below.drew ?_ | refine balloc ?_ _ | refine bset ?_ (by simp; omega) _ | refine bset ?_ (by simp) _ | refine bstep ?_ (by assumption)))⟩ | exact ⟨_, rfl, ⟨fun _ => False, evtsR_code14 _ _ _⟩, by (repeat (first | exact Below.refl _ _ | assumption | refine Below.drew ?_ | refine balloc ?_ _ | refine bset ?_ (by simp; omega) _ | refine bset ?_ (by simp) _ | refine bstep ?_ (by assumption)))⟩
end Go.Proofs.YtecfelacdapdgaaGreat

/-
  What is handed in, read as data, is data in memory: rows and structs of rows.
-/
namespace Go.Proofs.YtecfelacdapdgaaGreat
open Go.ChangeShapes Go.WideShapes Go.ChangeAt Go.RowKit Go.Joins

theorem spot_none {W : World} {base k : Nat} {a : Addr} {cs : List Value} (hk : 0 < k) (hc : W.cells? base a k = some cs) : a.spot = none := by
  obtain ⟨hb, hl, hcell⟩ := World.cells?_some hc
  have q0 := hcell 0 hk
  obtain ⟨b, o, s⟩ := a
  cases s with
  | none => rfl
  | some s =>
    have : 0 < cs.length := by omega
    simp [Addr.add, World.cell?, this] at q0
    split at q0 <;> simp at q0
theorem add_plain (b o i : Nat) : (Addr.mk b o none).add i = ⟨b, o + i, none⟩ := by
  by_cases h : i = 0
  · subst h; simp [Addr.add]
  · simp [Addr.add, h]
theorem openRow {H : Type} {enc : TypeId × Value → H} {W : World} {sp : Nat → Bool} {held : Bool} {n : Nat} {v : Value} {y : DataW H × List MemPlace} {t e size : Nat} {α : Type} [Inhabited α] {q : List Value → α → Prop}
    (ht : Tryz.prog.underlying t = some (.slice e)) (hz : Tryz.prog.cellsOf e = size) (hs : 0 < size)
    (hq : ∀ n cs y, DataW.trod enc Tryz.prog W 0 sp held n e cs = some y → cs.length = size → ∃ x, q cs x) (h : DataW.trod enc Tryz.prog W 0 sp held n t [v] = some y) :
    ∃ (a : Option Addr) (cap : Nat) (xs : List α) (cs : Nat → List Value), v = .slice a xs.length cap ∧ xs.length ≤ cap ∧ cap ≤ maxLen ∧ ∀ i, i < xs.length → q (cs i) (xs.getD i default) ∧ (cs i).length = size ∧ ∃ b o, a = some ⟨b, o, none⟩ ∧ ∀ j, j < size → W.cell? ⟨b, o + i * size + j, none⟩ = (cs i)[j]? := by
  rcases Go.Deep.open_slice ht h with ⟨hcs, _⟩ | ⟨a, len, cap, m, n', D, Pl, hcs, hb, hl, hm, hmm, _, hc⟩
  · simp at hcs
    subst hcs
    exact ⟨none, 0, [], fun _ => [], rfl, by simp, by unfold maxLen; omega, fun i hi => by simp at hi⟩
  · simp at hcs
    subst hcs
    have hlm : len ≤ m := by rw [hmm]; split <;> omega
    rw [hz] at hc
    have h1 : ∀ i, i < len → ∃ z : List Value × α, q z.1 z.2 ∧ z.1.length = size ∧ ∃ b o, a = ⟨b, o, none⟩ ∧ ∀ j, j < size → W.cell? ⟨b, o + i * size + j, none⟩ = z.1[j]? := by
      intro i hi
      obtain ⟨cs', h1, h2⟩ := hc i (by omega)
      obtain ⟨_, hl', hcell⟩ := World.cells?_some h1
      obtain ⟨x, hx⟩ := hq _ _ _ h2 hl'
      obtain ⟨cs0, k1, _⟩ := hc 0 (by omega)
      have hsp := spot_none hs k1
      obtain ⟨b, o, s⟩ := a
      have hs0 : s = none := by simpa [Addr.add] using hsp
      subst hs0
      refine ⟨(cs', x), hx, hl', b, o, rfl, fun j hj => ?_⟩
      have := hcell j hj
      rw [add_plain, add_plain] at this
      exact this
    obtain ⟨f, hf⟩ := Go.Deep.choose_lt h1
    refine ⟨some a, cap, (List.range len).map (fun i => (f i).2), fun i => (f i).1, by simp, by simpa using hl, hm, fun i hi => ?_⟩
    simp at hi
    obtain ⟨g1, g2, b, o, rfl, g3⟩ := hf i hi
    have e : (List.map (fun i => (f i).2) (List.range len)).getD i default = (f i).2 := by simp [List.getD, hi]
    rw [e]
    exact ⟨g1, g2, b, o, rfl, g3⟩
end Go.Proofs.YtecfelacdapdgaaGreat

/-
  A contract handed in.
-/
namespace Go.Proofs.YtecfelacdapdgaaGreat
open Go.ChangeShapes Go.WideShapes Go.ChangeAt Go.RowKit Go.Joins
set_option linter.unusedSectionVars false
variable [DecidableEq Leg] [Inhabited Leg] [DecidableEq Cont] [Inhabited Cont]

theorem cellsInt' : Tryz.prog.cellsOf 2 = 1 := by kernel_rfl
end Go.Proofs.YtecfelacdapdgaaGreat

