import Derived.Test.YtjhmdnlkpkagiaaPrnPromisesLaw12
import Derived.Test.YtjhmdnlkpkagiaaPrnPromisesLaw13
import Derived.Test.YtjhmdnlkpkagiaaPrnPromisesLaw7
import Derived.BigQuiet
import Derived.Deep.QuietTactic
import Derived.Deep.RegionHeld3

/-
  What a slot promised it keeps: the walk.
-/
set_option linter.unusedVariables false
set_option linter.unusedSimpArgs false
namespace Go.Proofs.Ytjhmdnlkpkagiaa
open Go.RowKit
set_option linter.unusedSectionVars false
variable [DecidableEq Vot] [Inhabited Vot] [DecidableEq Slt] [Inhabited Slt] [DecidableEq SltR] [Inhabited SltR] [DecidableEq Bal] [Inhabited Bal] [DecidableEq Ledg] [Inhabited Ledg] [DecidableEq Leg] [Inhabited Leg] [DecidableEq Acc] [Inhabited Acc] [DecidableEq AccR] [Inhabited AccR] [DecidableEq AccsR] [Inhabited AccsR] [DecidableEq SltsR] [Inhabited SltsR] [DecidableEq Logg] [Inhabited Logg] [DecidableEq LoggR] [Inhabited LoggR] [DecidableEq BytesR] [Inhabited BytesR] [DecidableEq RecsR] [Inhabited RecsR]
attribute [local go_sem ↓] Go.wp_at_zero Go.wp_at_succ

namespace promisesLaw
set_option maxRecDepth 20000 in
set_option maxHeartbeats 16000000 in
theorem walk (x0 : Value) (d0 : List Byte) (w : World) (hx0 : bytesR.V w x0 d0) :
    Calls Try.prog 3 #[x0] w fun e w' => e = .returned (.bool true) ∧ Below w.heap.size w w' := by
  have hX0 := hx0
  obtain ⟨ax, cx, rfl⟩ := bytes_form hx0
  go_enter Try.func3, Try.ntmps3
  go_wp2_with fail
  refine (lwBig_any _ d0 _ hX0).mono ?_
  rintro e w' ⟨rfl, hw⟩
  obtain rfl : w = w' := hw.symm
  by_cases hbig : 1048576 < d0.length
  · rw [decide_eq_true hbig]
    go_wp2
    go_ret
    exact ⟨rfl, Below.refl _ _⟩
  rw [decide_eq_false hbig]
  have HX : Hid (∀ W, Below w.heap.size w W → BytesV W (.slice ax d0.length cx) d0) := fun W hW => BytesV_below hX0 hW
  obtain ⟨N0, hN0⟩ : ∃ N0, N0 = d0.length := ⟨_, rfl⟩
  rw [← hN0] at HX ⊢
  have HN0 : Hid (d0.length ≤ 1048576) := by unfold Hid; omega
  clear hx0 hX0 hbig hN0
  go_wp2_with fail
  refine (drawProm_any _ d0 _ (HX.out _ (Below.refl _ _)) HN0.out).mono ?_
  rintro e w1 ⟨v1, d, b, rfl, hV1, hl1, hB1⟩
  clear HX HN0
  obtain ⟨p1, q1, rfl⟩ := slt_form hV1
  obtain ⟨n, hn⟩ : ∃ n, n = d.cast.length := ⟨_, rfl⟩
  have HN : Hid (d.cast.length = n) := hn.symm
  rw [← hn] at hV1 hl1 ⊢
  clear hn
  have HV1 : Hid (∀ W, Below w1.heap.size w1 W → sltR.V W (.agg #[.int .i64 d.con, .int .i64 d.sh, .int .i64 d.pr, .int .i64 d.lb, .int .i64 d.lv, .slice p1 n q1]) d) := fun W hW => sltR.below hV1 hW
  clear hV1
  go_wp2_with fail
  refine (implProm_u _ d b _ (HV1.out _ (by (repeat (first | exact Below.refl _ _ | assumption | refine Below.drew ?_ | refine balloc ?_ _ | refine bset ?_ (by simp; omega) _ | refine bset ?_ (by simp) _ | refine bstep ?_ (by assumption)))))).mono ?_
  rintro e w2 ⟨v2, F2, rfl, o2, hb2⟩
  obtain ⟨p2, q2, G2, rfl, O2⟩ := sltRR_open o2
  have hB2 : Below w.heap.size w w2 := bstep (by (repeat (first | exact Below.refl _ _ | assumption | refine Below.drew ?_ | refine balloc ?_ _ | refine bset ?_ (by simp; omega) _ | refine bset ?_ (by simp) _ | refine bstep ?_ (by assumption)))) hb2
  have hW2 : Below w1.heap.size w1 w2 := bstep (by (repeat (first | exact Below.refl _ _ | assumption | refine Below.drew ?_ | refine balloc ?_ _ | refine bset ?_ (by simp; omega) _ | refine bset ?_ (by simp) _ | refine bstep ?_ (by assumption)))) hb2
  have c0 := cell_keep hb2 (show World.cell? _ ⟨w1.heap.size, 0, none⟩ = some (.int .i64 d.con) by simp [go_sem])
  have c1 := cell_keep hb2 (show World.cell? _ ⟨w1.heap.size, 1, none⟩ = some (.int .i64 d.sh) by simp [go_sem])
  have c2 := cell_keep hb2 (show World.cell? _ ⟨w1.heap.size, 2, none⟩ = some (.int .i64 d.pr) by simp [go_sem])
  have c3 := cell_keep hb2 (show World.cell? _ ⟨w1.heap.size, 3, none⟩ = some (.int .i64 d.lb) by simp [go_sem])
  have c4 := cell_keep hb2 (show World.cell? _ ⟨w1.heap.size, 4, none⟩ = some (.int .i64 d.lv) by simp [go_sem])
  have c5 := cell_keep hb2 (show World.cell? _ ⟨w1.heap.size, 5, none⟩ = some (.slice p1 n q1) by simp [go_sem])
  have z1 := World.block_lt_of_cell? _ _ c0
  dsimp only at z1
  clear hb2 o2
  by_cases hc : (promD d b).code = 0
  · obtain ⟨e1, f1, hb0, hb1000⟩ := promD_zero hc
    rw [e1] at O2 ⊢
    dsimp only at O2 ⊢
    rw [HN.out] at O2 ⊢
    have HV2 : Hid (∀ W, Below w2.heap.size w2 W → sltR.V W (.agg #[.int .i64 d.con, .int .i64 d.sh, .int .i64 b, .int .i64 d.lb, .int .i64 d.lv, .slice p2 n q2]) ⟨d.con, d.sh, b, d.lb, d.lv, d.cast⟩) := fun W hW => ⟨_, rfl, votsR.below (votsR.ofO O2) hW⟩
    have HF1 : Hid (sltFault ⟨d.con, d.sh, b, d.lb, d.lv, d.cast⟩ = 0) := f1
    have hnv : ∀ W, (binOp .neq 25 (.agg #[.int .i64 d.lb, .int .i64 d.lv]) (.agg #[.int .i64 d.lb, .int .i64 d.lv])).run Try.prog W = .ok (.bool false) W := fun W => by rw [neqVot]; simp
    have hbb : (b != b) = false := bne_self_eq_false b
    clear O2 e1 f1 hc HV1
    go_wp2_with fail
    refine (implSlotF_any _ ⟨d.con, d.sh, b, d.lb, d.lv, d.cast⟩ _ (HV2.out _ (by (repeat (first | exact Below.refl _ _ | assumption | refine Below.drew ?_ | refine balloc ?_ _ | refine bset ?_ (by simp; omega) _ | refine bset ?_ (by simp) _ | refine bstep ?_ (by assumption)))))).mono ?_
    rintro e w3 ⟨rfl, hb3⟩
    rw [HF1.out]
    have hB3 : Below w.heap.size w w3 := bstep (by (repeat (first | exact Below.refl _ _ | assumption | refine Below.drew ?_ | refine balloc ?_ _ | refine bset ?_ (by simp; omega) _ | refine bset ?_ (by simp) _ | refine bstep ?_ (by assumption)))) hb3
    have hW3 : Below w2.heap.size w2 w3 := bstep (by (repeat (first | exact Below.refl _ _ | assumption | refine Below.drew ?_ | refine balloc ?_ _ | refine bset ?_ (by simp; omega) _ | refine bset ?_ (by simp) _ | refine bstep ?_ (by assumption)))) hb3
    have t0 := cell_keep hb3 (show World.cell? _ ⟨w2.heap.size, 0, none⟩ = some (.int .i64 0) by simp [go_sem])
    have t1 := cell_keep hb3 (show World.cell? _ ⟨w2.heap.size, 1, none⟩ = some (.int .i64 d.lb) by simp [go_sem])
    have t2 := cell_keep hb3 (show World.cell? _ ⟨w2.heap.size, 2, none⟩ = some (.int .i64 d.lv) by simp [go_sem])
    have t3 := cell_keep hb3 (show World.cell? _ ⟨w2.heap.size, 3, none⟩ = some (.int .i64 d.con) by simp [go_sem])
    have t4 := cell_keep hb3 (show World.cell? _ ⟨w2.heap.size, 4, none⟩ = some (.int .i64 d.sh) by simp [go_sem])
    have t5 := cell_keep hb3 (show World.cell? _ ⟨w2.heap.size, 5, none⟩ = some (.int .i64 b) by simp [go_sem])
    have t6 := cell_keep hb3 (show World.cell? _ ⟨w2.heap.size, 6, none⟩ = some (.int .i64 d.lb) by simp [go_sem])
    have t7 := cell_keep hb3 (show World.cell? _ ⟨w2.heap.size, 7, none⟩ = some (.int .i64 d.lv) by simp [go_sem])
    have t8 := cell_keep hb3 (show World.cell? _ ⟨w2.heap.size, 8, none⟩ = some (.slice p2 n q2) by simp [go_sem])
    have z2 := World.block_lt_of_cell? _ _ t0
    dsimp only at z2
    clear hb3 c0 c1 c2 c3 c4 c5
    by_cases hpos : 0 < b
    · have hwb : IntKind.i64.wrap (b - 1) = b - 1 := wrapI _ (by omega) (by omega)
      have HF8 : Hid ((accD ⟨d.con, d.sh, b, d.lb, d.lv, d.cast⟩ (b - 1) 1).code = 8) := accD_busyP HF1.out (by omega) (by omega) (by dsimp only; omega)
      go_wp2_with fail
      refine (implAccCall _ ⟨d.con, d.sh, b, d.lb, d.lv, d.cast⟩ (b - 1) 1 8 _ (HV2.out _ (by (repeat (first | exact Below.refl _ _ | assumption | refine Below.drew ?_ | refine balloc ?_ _ | refine bset ?_ (by simp; omega) _ | refine bset ?_ (by simp) _ | refine bstep ?_ (by assumption))))) HF8.out).mono ?_
      rintro e w4 ⟨a1, a2, a3, a4, a5, a6, a7, pz, nz, qz, rfl, hb4⟩
      have hf4 : ∀ W, (Instr.field 32 (.agg #[.int .i64 8, .int .i64 a1, .int .i64 a2, .int .i64 a3, .int .i64 a4, .int .i64 a5, .int .i64 a6, .int .i64 a7, .slice pz nz qz]) 0).run Try.prog W = .ok (.int .i64 8) W := fun W => codeField _ _ _ _ _ _ _ _ _ _ _ W
      have hBt : Below w.heap.size w w4 := bstep (by (repeat (first | exact Below.refl _ _ | assumption | refine Below.drew ?_ | refine balloc ?_ _ | refine bset ?_ (by simp; omega) _ | refine bset ?_ (by simp) _ | refine bstep ?_ (by assumption)))) hb4
      have hW4 : Below w2.heap.size w2 w4 := bstep (by (repeat (first | exact Below.refl _ _ | assumption | refine Below.drew ?_ | refine balloc ?_ _ | refine bset ?_ (by simp; omega) _ | refine bset ?_ (by simp) _ | refine bstep ?_ (by assumption)))) hb4
      replace t0 := cell_keep hb4 t0
      replace t1 := cell_keep hb4 t1
      replace t2 := cell_keep hb4 t2
      replace t3 := cell_keep hb4 t3
      replace t4 := cell_keep hb4 t4
      replace t5 := cell_keep hb4 t5
      replace t6 := cell_keep hb4 t6
      replace t7 := cell_keep hb4 t7
      replace t8 := cell_keep hb4 t8
      have z4 := World.block_lt_of_cell? _ _ t0
      dsimp only at z4
      clear hb4 hW3 hB3
      go_wp2_with fail
      refine (implAcc_u _ ⟨d.con, d.sh, b, d.lb, d.lv, d.cast⟩ b 2 _ (HV2.out _ (by (repeat (first | exact Below.refl _ _ | assumption | refine Below.drew ?_ | refine balloc ?_ _ | refine bset ?_ (by simp; omega) _ | refine bset ?_ (by simp) _ | refine bstep ?_ (by assumption)))))).mono ?_
      rintro e w5 ⟨v5, F5, rfl, o5, hb5⟩
      obtain ⟨p3, q3, G3, rfl, O3⟩ := sltRR_open o5
      have hB5 : Below w.heap.size w w5 := bstep hBt hb5
      have hW5 : Below w2.heap.size w2 w5 := bstep hW4 hb5
      replace t0 := cell_keep hb5 t0
      replace t1 := cell_keep hb5 t1
      replace t2 := cell_keep hb5 t2
      replace t3 := cell_keep hb5 t3
      replace t4 := cell_keep hb5 t4
      replace t5 := cell_keep hb5 t5
      replace t6 := cell_keep hb5 t6
      replace t7 := cell_keep hb5 t7
      replace t8 := cell_keep hb5 t8
      have z5 := World.block_lt_of_cell? _ _ t0
      dsimp only at z5
      clear o5
      by_cases hc2 : (accD ⟨d.con, d.sh, b, d.lb, d.lv, d.cast⟩ b 2).code = 0
      · obtain ⟨cs, e2, f2, f7, f0⟩ := accD_zero HF1.out hb0 hb1000 hc2
        rw [e2] at O3 ⊢
        dsimp only at O3 ⊢
        obtain ⟨m, hm⟩ : ∃ m, m = cs.length := ⟨_, rfl⟩
        have HM : Hid (cs.length = m) := hm.symm
        rw [← hm] at O3 ⊢
        have HV3 : Hid (∀ W, Below w5.heap.size w5 W → sltR.V W (.agg #[.int .i64 d.con, .int .i64 d.sh, .int .i64 b, .int .i64 b, .int .i64 2, .slice p3 m q3]) ⟨d.con, d.sh, b, b, 2, cs⟩) := fun W hW => ⟨_, rfl, votsR.below (votsR.ofO O3) hW⟩
        have HF2 : Hid (sltFault ⟨d.con, d.sh, b, b, 2, cs⟩ = 0) := f2
        have HF7 : Hid ((accD ⟨d.con, d.sh, b, b, 2, cs⟩ b 1).code = 7) := f7
        have HF0 : Hid ((accD ⟨d.con, d.sh, b, b, 2, cs⟩ b 2).code = 0) := f0
        have hev : ∀ W, (binOp .eql 25 (.agg #[.int .i64 b, .int .i64 2]) (.agg #[.int .i64 b, .int .i64 2])).run Try.prog W = .ok (.bool true) W := fun W => by rw [eqlVot]; simp
        clear hm O3 e2 f2 f7 f0 hc2 hb5
        go_wp2_with fail
        refine (implSlotF_any _ ⟨d.con, d.sh, b, b, 2, cs⟩ _ (HV3.out _ (by (repeat (first | exact Below.refl _ _ | assumption | refine Below.drew ?_ | refine balloc ?_ _ | refine bset ?_ (by simp; omega) _ | refine bset ?_ (by simp) _ | refine bstep ?_ (by assumption)))))).mono ?_
        rintro e w6 ⟨rfl, hb6⟩
        rw [HF2.out]
        have hB6 : Below w.heap.size w w6 := bstep (by (repeat (first | exact Below.refl _ _ | assumption | refine Below.drew ?_ | refine balloc ?_ _ | refine bset ?_ (by simp; omega) _ | refine bset ?_ (by simp) _ | refine bstep ?_ (by assumption)))) hb6
        have hW6 : Below w5.heap.size w5 w6 := bstep (by (repeat (first | exact Below.refl _ _ | assumption | refine Below.drew ?_ | refine balloc ?_ _ | refine bset ?_ (by simp; omega) _ | refine bset ?_ (by simp) _ | refine bstep ?_ (by assumption)))) hb6
        have u0 := cell_keep hb6 (show World.cell? _ ⟨w5.heap.size, 3, none⟩ = some (.int .i64 d.con) by simp [go_sem])
        have u1 := cell_keep hb6 (show World.cell? _ ⟨w5.heap.size, 4, none⟩ = some (.int .i64 d.sh) by simp [go_sem])
        have u2 := cell_keep hb6 (show World.cell? _ ⟨w5.heap.size, 5, none⟩ = some (.int .i64 b) by simp [go_sem])
        have u3 := cell_keep hb6 (show World.cell? _ ⟨w5.heap.size, 6, none⟩ = some (.int .i64 b) by simp [go_sem])
        have u4 := cell_keep hb6 (show World.cell? _ ⟨w5.heap.size, 7, none⟩ = some (.int .i64 2) by simp [go_sem])
        have u5 := cell_keep hb6 (show World.cell? _ ⟨w5.heap.size, 8, none⟩ = some (.slice p3 m q3) by simp [go_sem])
        have z6 := World.block_lt_of_cell? _ _ u0
        dsimp only at z6
        clear hb6
        go_wp2_with fail
        refine (implAccCall _ ⟨d.con, d.sh, b, b, 2, cs⟩ b 1 7 _ (HV3.out _ (by (repeat (first | exact Below.refl _ _ | assumption | refine Below.drew ?_ | refine balloc ?_ _ | refine bset ?_ (by simp; omega) _ | refine bset ?_ (by simp) _ | refine bstep ?_ (by assumption))))) HF7.out).mono ?_
        rintro e w7 ⟨a1, a2, a3, a4, a5, a6, a7, pz, nz, qz, rfl, hb7⟩
        have hf7 : ∀ W, (Instr.field 32 (.agg #[.int .i64 7, .int .i64 a1, .int .i64 a2, .int .i64 a3, .int .i64 a4, .int .i64 a5, .int .i64 a6, .int .i64 a7, .slice pz nz qz]) 0).run Try.prog W = .ok (.int .i64 7) W := fun W => codeField _ _ _ _ _ _ _ _ _ _ _ W
        have hB7 : Below w.heap.size w w7 := bstep (by (repeat (first | exact Below.refl _ _ | assumption | refine Below.drew ?_ | refine balloc ?_ _ | refine bset ?_ (by simp; omega) _ | refine bset ?_ (by simp) _ | refine bstep ?_ (by assumption)))) hb7
        have hW7 : Below w5.heap.size w5 w7 := bstep (by (repeat (first | exact Below.refl _ _ | assumption | refine Below.drew ?_ | refine balloc ?_ _ | refine bset ?_ (by simp; omega) _ | refine bset ?_ (by simp) _ | refine bstep ?_ (by assumption)))) hb7
        replace u0 := cell_keep hb7 u0
        replace u1 := cell_keep hb7 u1
        replace u2 := cell_keep hb7 u2
        replace u3 := cell_keep hb7 u3
        replace u4 := cell_keep hb7 u4
        replace u5 := cell_keep hb7 u5
        have z7 := World.block_lt_of_cell? _ _ u0
        dsimp only at z7
        clear hb7
        go_wp2_with fail
        refine (implAccCall _ ⟨d.con, d.sh, b, b, 2, cs⟩ b 2 0 _ (HV3.out _ (by (repeat (first | exact Below.refl _ _ | assumption | refine Below.drew ?_ | refine balloc ?_ _ | refine bset ?_ (by simp; omega) _ | refine bset ?_ (by simp) _ | refine bstep ?_ (by assumption))))) HF0.out).mono ?_
        rintro e w8 ⟨a1', a2', a3', a4', a5', a6', a7', pz', nz', qz', rfl, hb8⟩
        have hf8 : ∀ W, (Instr.field 32 (.agg #[.int .i64 0, .int .i64 a1', .int .i64 a2', .int .i64 a3', .int .i64 a4', .int .i64 a5', .int .i64 a6', .int .i64 a7', .slice pz' nz' qz']) 0).run Try.prog W = .ok (.int .i64 0) W := fun W => codeField _ _ _ _ _ _ _ _ _ _ _ W
        have hB8 : Below w.heap.size w w8 := bstep (by (repeat (first | exact Below.refl _ _ | assumption | refine Below.drew ?_ | refine balloc ?_ _ | refine bset ?_ (by simp; omega) _ | refine bset ?_ (by simp) _ | refine bstep ?_ (by assumption)))) hb8
        clear hb8
        go_wp2
        go_ret
        exact ⟨rfl, hB8⟩
      · obtain ⟨rr, hrr⟩ : ∃ rr, rr = accD ⟨d.con, d.sh, b, d.lb, d.lv, d.cast⟩ b 2 := ⟨_, rfl⟩
        have HSp : Hid (∀ W, Below w2.heap.size w2 W → Calls Try.prog 10 #[.agg #[.int .i64 d.con, .int .i64 d.sh, .int .i64 b, .int .i64 d.lb, .int .i64 d.lv, .slice p2 n q2], .int .i64 b, .int .i64 2] W fun e w' => ∃ (a1 a2 a3 a4 a5 a6 a7 : Int) (p : Option Addr) (n q : Nat), e = .returned (.agg #[.int .i64 rr.code, .int .i64 a1, .int .i64 a2, .int .i64 a3, .int .i64 a4, .int .i64 a5, .int .i64 a6, .int .i64 a7, .slice p n q]) ∧ Below W.heap.size W w') := fun W hW => specAccCall _ ⟨d.con, d.sh, b, d.lb, d.lv, d.cast⟩ b 2 _ W (HV2.out W hW) (by show d.cast.length ≤ _; rw [HN.out]; omega) (by rw [hrr])
        rw [← hrr] at hc2 ⊢
        clear hrr O3
        obtain ⟨rc, ro, rv, rs⟩ := rr
        dsimp only at hc2 HSp ⊢
        have hc2' : (rc != 0) = true := bne_iff_ne.2 hc2
        generalize rs.cast.length = nr at *
        go_wp2
        refine wp_region_noPanic ?_
        refine region_upto (fun W => Below w5.heap.size w5 W ∧ (W.cell? ⟨w2.heap.size, 3, none⟩ = some (.int .i64 d.con) ∧ W.cell? ⟨w2.heap.size, 4, none⟩ = some (.int .i64 d.sh) ∧ W.cell? ⟨w2.heap.size, 5, none⟩ = some (.int .i64 b) ∧ W.cell? ⟨w2.heap.size, 6, none⟩ = some (.int .i64 d.lb) ∧ W.cell? ⟨w2.heap.size, 7, none⟩ = some (.int .i64 d.lv) ∧ W.cell? ⟨w2.heap.size, 8, none⟩ = some (.slice p2 n q2)) ∧ W.cell? ⟨w5.heap.size, 0, none⟩ = some (.int .i64 rc)) 9 (by kernel_rfl) ⟨by (repeat (first | exact Below.refl _ _ | assumption | refine Below.drew ?_ | refine balloc ?_ _ | refine bset ?_ (by simp; omega) _ | refine bset ?_ (by simp) _ | refine bstep ?_ (by assumption))), ⟨cell_keep (by (repeat (first | exact Below.refl _ _ | assumption | refine Below.drew ?_ | refine balloc ?_ _ | refine bset ?_ (by simp; omega) _ | refine bset ?_ (by simp) _ | refine bstep ?_ (by assumption)))) t3, cell_keep (by (repeat (first | exact Below.refl _ _ | assumption | refine Below.drew ?_ | refine balloc ?_ _ | refine bset ?_ (by simp; omega) _ | refine bset ?_ (by simp) _ | refine bstep ?_ (by assumption)))) t4, cell_keep (by (repeat (first | exact Below.refl _ _ | assumption | refine Below.drew ?_ | refine balloc ?_ _ | refine bset ?_ (by simp; omega) _ | refine bset ?_ (by simp) _ | refine bstep ?_ (by assumption)))) t5, cell_keep (by (repeat (first | exact Below.refl _ _ | assumption | refine Below.drew ?_ | refine balloc ?_ _ | refine bset ?_ (by simp; omega) _ | refine bset ?_ (by simp) _ | refine bstep ?_ (by assumption)))) t6, cell_keep (by (repeat (first | exact Below.refl _ _ | assumption | refine Below.drew ?_ | refine balloc ?_ _ | refine bset ?_ (by simp; omega) _ | refine bset ?_ (by simp) _ | refine bstep ?_ (by assumption)))) t7, cell_keep (by (repeat (first | exact Below.refl _ _ | assumption | refine Below.drew ?_ | refine balloc ?_ _ | refine bset ?_ (by simp; omega) _ | refine bset ?_ (by simp) _ | refine bstep ?_ (by assumption)))) t8⟩, by simp [go_sem]⟩ (fun hS => ?_)
        refine upto_takeN (i := 0) (v := ?_) rfl (by kernel_rfl) (by kernel_rfl) (by kernel_rfl) (by kernel_rfl) (fun _ _ _ h => h) (by rfl) hS ?_ ?_
        rotate_left
        · intro wS hSw
          try dsimp only at hSw
          first | (go_simp; done) | (go_simp; with_reducible rfl)
        try simp only [Act.put, List.getElem_toArray, List.getElem_cons_zero, List.getElem_cons_succ, List.setIfInBounds_toArray, List.set_cons_zero, List.set_cons_succ]
        refine upto_takeN (i := 1) (v := ?_) rfl (by kernel_rfl) (by kernel_rfl) (by kernel_rfl) (by kernel_rfl) (fun _ _ _ h => h) (by rfl) hS ?_ ?_
        rotate_left
        · intro wS hSw
          try dsimp only at hSw
          first | (go_simp; done) | (go_simp; with_reducible rfl)
        try simp only [Act.put, List.getElem_toArray, List.getElem_cons_zero, List.getElem_cons_succ, List.setIfInBounds_toArray, List.set_cons_zero, List.set_cons_succ]
        refine upto_takeN (i := 2) (v := ?_) rfl (by kernel_rfl) (by kernel_rfl) (by kernel_rfl) (by kernel_rfl) (fun _ _ _ h => h) (by rfl) hS ?_ ?_
        rotate_left
        · intro wS hSw
          try dsimp only at hSw
          first | (go_simp; done) | (go_simp; with_reducible rfl)
        try simp only [Act.put, List.getElem_toArray, List.getElem_cons_zero, List.getElem_cons_succ, List.setIfInBounds_toArray, List.set_cons_zero, List.set_cons_succ]
        refine upto_takeN (i := 5) (v := ?_) rfl (by kernel_rfl) (by kernel_rfl) (by kernel_rfl) (by kernel_rfl) (fun _ _ _ h => h) (by rfl) hS ?_ ?_
        rotate_left
        · intro wS hSw
          try dsimp only at hSw
          first | (go_simp; done) | (go_simp; with_reducible rfl)
        try simp only [Act.put, List.getElem_toArray, List.getElem_cons_zero, List.getElem_cons_succ, List.setIfInBounds_toArray, List.set_cons_zero, List.set_cons_succ]
        refine upto_takeN (i := 6) (v := ?_) rfl (by kernel_rfl) (by kernel_rfl) (by kernel_rfl) (by kernel_rfl) (fun _ _ _ h => h) (by rfl) hS ?_ ?_
        rotate_left
        · intro wS hSw
          try dsimp only at hSw
          first | (go_simp; done) | (go_simp; with_reducible rfl)
        try simp only [Act.put, List.getElem_toArray, List.getElem_cons_zero, List.getElem_cons_succ, List.setIfInBounds_toArray, List.set_cons_zero, List.set_cons_succ]
        refine upto_step (i := 3) (by kernel_rfl) rfl ?_
        intro K hK
        go_simp
        refine (HSp.out _ (bstep hW5 hS.1)).mono ?_
        rintro e wz ⟨a1, a2, a3, a4, a5, a6, a7, pz, nz, qz, rfl, hbz⟩
        have hfz : ∀ W, (Instr.field 32 (.agg #[.int .i64 rc, .int .i64 a1, .int .i64 a2, .int .i64 a3, .int .i64 a4, .int .i64 a5, .int .i64 a6, .int .i64 a7, .slice pz nz qz]) 0).run Try.prog W = .ok (.int .i64 rc) W := fun W => codeField _ _ _ _ _ _ _ _ _ _ _ W
        have hSz : (fun W => Below w5.heap.size w5 W ∧ (W.cell? ⟨w2.heap.size, 3, none⟩ = some (.int .i64 d.con) ∧ W.cell? ⟨w2.heap.size, 4, none⟩ = some (.int .i64 d.sh) ∧ W.cell? ⟨w2.heap.size, 5, none⟩ = some (.int .i64 b) ∧ W.cell? ⟨w2.heap.size, 6, none⟩ = some (.int .i64 d.lb) ∧ W.cell? ⟨w2.heap.size, 7, none⟩ = some (.int .i64 d.lv) ∧ W.cell? ⟨w2.heap.size, 8, none⟩ = some (.slice p2 n q2)) ∧ W.cell? ⟨w5.heap.size, 0, none⟩ = some (.int .i64 rc)) wz := ⟨bstep hS.1 hbz, ⟨cell_keep hbz (hS.2.1.1), cell_keep hbz (hS.2.1.2.1), cell_keep hbz (hS.2.1.2.2.1), cell_keep hbz (hS.2.1.2.2.2.1), cell_keep hbz (hS.2.1.2.2.2.2.1), cell_keep hbz (hS.2.1.2.2.2.2.2)⟩, cell_keep hbz hS.2.2⟩
        refine hK _ _ (fun _ => hSz) ?_
        clear hK K hbz
        try simp only [Act.put, List.getElem_toArray, List.getElem_cons_zero, List.getElem_cons_succ, List.setIfInBounds_toArray, List.set_cons_zero, List.set_cons_succ]
        refine upto_takeN (i := 4) (v := (.int .i64 rc)) rfl (by kernel_rfl) (by kernel_rfl) (by kernel_rfl) (by kernel_rfl) (fun _ _ _ h => h) (by rfl) hSz ?_ ?_
        · intro wS hSw
          try dsimp only at hSw
          go_simp
        try simp only [Act.put, List.getElem_toArray, List.getElem_cons_zero, List.getElem_cons_succ, List.setIfInBounds_toArray, List.set_cons_zero, List.set_cons_succ]
        refine upto_takeN (i := 7) (v := (.bool true)) rfl (by kernel_rfl) (by kernel_rfl) (by kernel_rfl) (by kernel_rfl) (fun _ _ _ h => h) (by rfl) hSz ?_ ?_
        · intro wS hSw
          try dsimp only at hSw
          go_simp
        try simp only [Act.put, List.getElem_toArray, List.getElem_cons_zero, List.getElem_cons_succ, List.setIfInBounds_toArray, List.set_cons_zero, List.set_cons_succ]
        refine upto_takeN (i := 8) (v := (.bool true)) rfl (by kernel_rfl) (by kernel_rfl) (by kernel_rfl) (by kernel_rfl) (fun _ _ _ h => h) (by rfl) hSz ?_ ?_
        · intro wS hSw
          try dsimp only at hSw
          go_simp
        try simp only [Act.put, List.getElem_toArray, List.getElem_cons_zero, List.getElem_cons_succ, List.setIfInBounds_toArray, List.set_cons_zero, List.set_cons_succ]
        refine upto_done (by kernel_rfl) ?_
        refine NoPanic.normal ?_
        have hBz := hSz.1
        clear hSz hS
        go_wp2
        go_ret
        exact ⟨rfl, bstep hB5 hBz⟩
    · have hBt := hB3
      have hW4 := hW3
      go_wp2_with fail
      refine (implAcc_u _ ⟨d.con, d.sh, b, d.lb, d.lv, d.cast⟩ b 2 _ (HV2.out _ (by (repeat (first | exact Below.refl _ _ | assumption | refine Below.drew ?_ | refine balloc ?_ _ | refine bset ?_ (by simp; omega) _ | refine bset ?_ (by simp) _ | refine bstep ?_ (by assumption)))))).mono ?_
      rintro e w5 ⟨v5, F5, rfl, o5, hb5⟩
      obtain ⟨p3, q3, G3, rfl, O3⟩ := sltRR_open o5
      have hB5 : Below w.heap.size w w5 := bstep hBt hb5
      have hW5 : Below w2.heap.size w2 w5 := bstep hW4 hb5
      replace t0 := cell_keep hb5 t0
      replace t1 := cell_keep hb5 t1
      replace t2 := cell_keep hb5 t2
      replace t3 := cell_keep hb5 t3
      replace t4 := cell_keep hb5 t4
      replace t5 := cell_keep hb5 t5
      replace t6 := cell_keep hb5 t6
      replace t7 := cell_keep hb5 t7
      replace t8 := cell_keep hb5 t8
      have z5 := World.block_lt_of_cell? _ _ t0
      dsimp only at z5
      clear o5
      by_cases hc2 : (accD ⟨d.con, d.sh, b, d.lb, d.lv, d.cast⟩ b 2).code = 0
      · obtain ⟨cs, e2, f2, f7, f0⟩ := accD_zero HF1.out hb0 hb1000 hc2
        rw [e2] at O3 ⊢
        dsimp only at O3 ⊢
        obtain ⟨m, hm⟩ : ∃ m, m = cs.length := ⟨_, rfl⟩
        have HM : Hid (cs.length = m) := hm.symm
        rw [← hm] at O3 ⊢
        have HV3 : Hid (∀ W, Below w5.heap.size w5 W → sltR.V W (.agg #[.int .i64 d.con, .int .i64 d.sh, .int .i64 b, .int .i64 b, .int .i64 2, .slice p3 m q3]) ⟨d.con, d.sh, b, b, 2, cs⟩) := fun W hW => ⟨_, rfl, votsR.below (votsR.ofO O3) hW⟩
        have HF2 : Hid (sltFault ⟨d.con, d.sh, b, b, 2, cs⟩ = 0) := f2
        have HF7 : Hid ((accD ⟨d.con, d.sh, b, b, 2, cs⟩ b 1).code = 7) := f7
        have HF0 : Hid ((accD ⟨d.con, d.sh, b, b, 2, cs⟩ b 2).code = 0) := f0
        have hev : ∀ W, (binOp .eql 25 (.agg #[.int .i64 b, .int .i64 2]) (.agg #[.int .i64 b, .int .i64 2])).run Try.prog W = .ok (.bool true) W := fun W => by rw [eqlVot]; simp
        clear hm O3 e2 f2 f7 f0 hc2 hb5
        go_wp2_with fail
        refine (implSlotF_any _ ⟨d.con, d.sh, b, b, 2, cs⟩ _ (HV3.out _ (by (repeat (first | exact Below.refl _ _ | assumption | refine Below.drew ?_ | refine balloc ?_ _ | refine bset ?_ (by simp; omega) _ | refine bset ?_ (by simp) _ | refine bstep ?_ (by assumption)))))).mono ?_
        rintro e w6 ⟨rfl, hb6⟩
        rw [HF2.out]
        have hB6 : Below w.heap.size w w6 := bstep (by (repeat (first | exact Below.refl _ _ | assumption | refine Below.drew ?_ | refine balloc ?_ _ | refine bset ?_ (by simp; omega) _ | refine bset ?_ (by simp) _ | refine bstep ?_ (by assumption)))) hb6
        have hW6 : Below w5.heap.size w5 w6 := bstep (by (repeat (first | exact Below.refl _ _ | assumption | refine Below.drew ?_ | refine balloc ?_ _ | refine bset ?_ (by simp; omega) _ | refine bset ?_ (by simp) _ | refine bstep ?_ (by assumption)))) hb6
        have u0 := cell_keep hb6 (show World.cell? _ ⟨w5.heap.size, 3, none⟩ = some (.int .i64 d.con) by simp [go_sem])
        have u1 := cell_keep hb6 (show World.cell? _ ⟨w5.heap.size, 4, none⟩ = some (.int .i64 d.sh) by simp [go_sem])
        have u2 := cell_keep hb6 (show World.cell? _ ⟨w5.heap.size, 5, none⟩ = some (.int .i64 b) by simp [go_sem])
        have u3 := cell_keep hb6 (show World.cell? _ ⟨w5.heap.size, 6, none⟩ = some (.int .i64 b) by simp [go_sem])
        have u4 := cell_keep hb6 (show World.cell? _ ⟨w5.heap.size, 7, none⟩ = some (.int .i64 2) by simp [go_sem])
        have u5 := cell_keep hb6 (show World.cell? _ ⟨w5.heap.size, 8, none⟩ = some (.slice p3 m q3) by simp [go_sem])
        have z6 := World.block_lt_of_cell? _ _ u0
        dsimp only at z6
        clear hb6
        go_wp2_with fail
        refine (implAccCall _ ⟨d.con, d.sh, b, b, 2, cs⟩ b 1 7 _ (HV3.out _ (by (repeat (first | exact Below.refl _ _ | assumption | refine Below.drew ?_ | refine balloc ?_ _ | refine bset ?_ (by simp; omega) _ | refine bset ?_ (by simp) _ | refine bstep ?_ (by assumption))))) HF7.out).mono ?_
        rintro e w7 ⟨a1, a2, a3, a4, a5, a6, a7, pz, nz, qz, rfl, hb7⟩
        have hf7 : ∀ W, (Instr.field 32 (.agg #[.int .i64 7, .int .i64 a1, .int .i64 a2, .int .i64 a3, .int .i64 a4, .int .i64 a5, .int .i64 a6, .int .i64 a7, .slice pz nz qz]) 0).run Try.prog W = .ok (.int .i64 7) W := fun W => codeField _ _ _ _ _ _ _ _ _ _ _ W
        have hB7 : Below w.heap.size w w7 := bstep (by (repeat (first | exact Below.refl _ _ | assumption | refine Below.drew ?_ | refine balloc ?_ _ | refine bset ?_ (by simp; omega) _ | refine bset ?_ (by simp) _ | refine bstep ?_ (by assumption)))) hb7
        have hW7 : Below w5.heap.size w5 w7 := bstep (by (repeat (first | exact Below.refl _ _ | assumption | refine Below.drew ?_ | refine balloc ?_ _ | refine bset ?_ (by simp; omega) _ | refine bset ?_ (by simp) _ | refine bstep ?_ (by assumption)))) hb7
        replace u0 := cell_keep hb7 u0
        replace u1 := cell_keep hb7 u1
        replace u2 := cell_keep hb7 u2
        replace u3 := cell_keep hb7 u3
        replace u4 := cell_keep hb7 u4
        replace u5 := cell_keep hb7 u5
        have z7 := World.block_lt_of_cell? _ _ u0
        dsimp only at z7
        clear hb7
        go_wp2_with fail
        refine (implAccCall _ ⟨d.con, d.sh, b, b, 2, cs⟩ b 2 0 _ (HV3.out _ (by (repeat (first | exact Below.refl _ _ | assumption | refine Below.drew ?_ | refine balloc ?_ _ | refine bset ?_ (by simp; omega) _ | refine bset ?_ (by simp) _ | refine bstep ?_ (by assumption))))) HF0.out).mono ?_
        rintro e w8 ⟨a1', a2', a3', a4', a5', a6', a7', pz', nz', qz', rfl, hb8⟩
        have hf8 : ∀ W, (Instr.field 32 (.agg #[.int .i64 0, .int .i64 a1', .int .i64 a2', .int .i64 a3', .int .i64 a4', .int .i64 a5', .int .i64 a6', .int .i64 a7', .slice pz' nz' qz']) 0).run Try.prog W = .ok (.int .i64 0) W := fun W => codeField _ _ _ _ _ _ _ _ _ _ _ W
        have hB8 : Below w.heap.size w w8 := bstep (by (repeat (first | exact Below.refl _ _ | assumption | refine Below.drew ?_ | refine balloc ?_ _ | refine bset ?_ (by simp; omega) _ | refine bset ?_ (by simp) _ | refine bstep ?_ (by assumption)))) hb8
        clear hb8
        go_wp2
        go_ret
        exact ⟨rfl, hB8⟩
      · obtain ⟨rr, hrr⟩ : ∃ rr, rr = accD ⟨d.con, d.sh, b, d.lb, d.lv, d.cast⟩ b 2 := ⟨_, rfl⟩
        have HSp : Hid (∀ W, Below w2.heap.size w2 W → Calls Try.prog 10 #[.agg #[.int .i64 d.con, .int .i64 d.sh, .int .i64 b, .int .i64 d.lb, .int .i64 d.lv, .slice p2 n q2], .int .i64 b, .int .i64 2] W fun e w' => ∃ (a1 a2 a3 a4 a5 a6 a7 : Int) (p : Option Addr) (n q : Nat), e = .returned (.agg #[.int .i64 rr.code, .int .i64 a1, .int .i64 a2, .int .i64 a3, .int .i64 a4, .int .i64 a5, .int .i64 a6, .int .i64 a7, .slice p n q]) ∧ Below W.heap.size W w') := fun W hW => specAccCall _ ⟨d.con, d.sh, b, d.lb, d.lv, d.cast⟩ b 2 _ W (HV2.out W hW) (by show d.cast.length ≤ _; rw [HN.out]; omega) (by rw [hrr])
        rw [← hrr] at hc2 ⊢
        clear hrr O3
        obtain ⟨rc, ro, rv, rs⟩ := rr
        dsimp only at hc2 HSp ⊢
        have hc2' : (rc != 0) = true := bne_iff_ne.2 hc2
        generalize rs.cast.length = nr at *
        go_wp2
        refine wp_region_noPanic ?_
        refine region_upto (fun W => Below w5.heap.size w5 W ∧ (W.cell? ⟨w2.heap.size, 3, none⟩ = some (.int .i64 d.con) ∧ W.cell? ⟨w2.heap.size, 4, none⟩ = some (.int .i64 d.sh) ∧ W.cell? ⟨w2.heap.size, 5, none⟩ = some (.int .i64 b) ∧ W.cell? ⟨w2.heap.size, 6, none⟩ = some (.int .i64 d.lb) ∧ W.cell? ⟨w2.heap.size, 7, none⟩ = some (.int .i64 d.lv) ∧ W.cell? ⟨w2.heap.size, 8, none⟩ = some (.slice p2 n q2)) ∧ W.cell? ⟨w5.heap.size, 0, none⟩ = some (.int .i64 rc)) 9 (by kernel_rfl) ⟨by (repeat (first | exact Below.refl _ _ | assumption | refine Below.drew ?_ | refine balloc ?_ _ | refine bset ?_ (by simp; omega) _ | refine bset ?_ (by simp) _ | refine bstep ?_ (by assumption))), ⟨cell_keep (by (repeat (first | exact Below.refl _ _ | assumption | refine Below.drew ?_ | refine balloc ?_ _ | refine bset ?_ (by simp; omega) _ | refine bset ?_ (by simp) _ | refine bstep ?_ (by assumption)))) t3, cell_keep (by (repeat (first | exact Below.refl _ _ | assumption | refine Below.drew ?_ | refine balloc ?_ _ | refine bset ?_ (by simp; omega) _ | refine bset ?_ (by simp) _ | refine bstep ?_ (by assumption)))) t4, cell_keep (by (repeat (first | exact Below.refl _ _ | assumption | refine Below.drew ?_ | refine balloc ?_ _ | refine bset ?_ (by simp; omega) _ | refine bset ?_ (by simp) _ | refine bstep ?_ (by assumption)))) t5, cell_keep (by (repeat (first | exact Below.refl _ _ | assumption | refine Below.drew ?_ | refine balloc ?_ _ | refine bset ?_ (by simp; omega) _ | refine bset ?_ (by simp) _ | refine bstep ?_ (by assumption)))) t6, cell_keep (by (repeat (first | exact Below.refl _ _ | assumption | refine Below.drew ?_ | refine balloc ?_ _ | refine bset ?_ (by simp; omega) _ | refine bset ?_ (by simp) _ | refine bstep ?_ (by assumption)))) t7, cell_keep (by (repeat (first | exact Below.refl _ _ | assumption | refine Below.drew ?_ | refine balloc ?_ _ | refine bset ?_ (by simp; omega) _ | refine bset ?_ (by simp) _ | refine bstep ?_ (by assumption)))) t8⟩, by simp [go_sem]⟩ (fun hS => ?_)
        refine upto_takeN (i := 0) (v := ?_) rfl (by kernel_rfl) (by kernel_rfl) (by kernel_rfl) (by kernel_rfl) (fun _ _ _ h => h) (by rfl) hS ?_ ?_
        rotate_left
        · intro wS hSw
          try dsimp only at hSw
          first | (go_simp; done) | (go_simp; with_reducible rfl)
        try simp only [Act.put, List.getElem_toArray, List.getElem_cons_zero, List.getElem_cons_succ, List.setIfInBounds_toArray, List.set_cons_zero, List.set_cons_succ]
        refine upto_takeN (i := 1) (v := ?_) rfl (by kernel_rfl) (by kernel_rfl) (by kernel_rfl) (by kernel_rfl) (fun _ _ _ h => h) (by rfl) hS ?_ ?_
        rotate_left
        · intro wS hSw
          try dsimp only at hSw
          first | (go_simp; done) | (go_simp; with_reducible rfl)
        try simp only [Act.put, List.getElem_toArray, List.getElem_cons_zero, List.getElem_cons_succ, List.setIfInBounds_toArray, List.set_cons_zero, List.set_cons_succ]
        refine upto_takeN (i := 2) (v := ?_) rfl (by kernel_rfl) (by kernel_rfl) (by kernel_rfl) (by kernel_rfl) (fun _ _ _ h => h) (by rfl) hS ?_ ?_
        rotate_left
        · intro wS hSw
          try dsimp only at hSw
          first | (go_simp; done) | (go_simp; with_reducible rfl)
        try simp only [Act.put, List.getElem_toArray, List.getElem_cons_zero, List.getElem_cons_succ, List.setIfInBounds_toArray, List.set_cons_zero, List.set_cons_succ]
        refine upto_takeN (i := 5) (v := ?_) rfl (by kernel_rfl) (by kernel_rfl) (by kernel_rfl) (by kernel_rfl) (fun _ _ _ h => h) (by rfl) hS ?_ ?_
        rotate_left
        · intro wS hSw
          try dsimp only at hSw
          first | (go_simp; done) | (go_simp; with_reducible rfl)
        try simp only [Act.put, List.getElem_toArray, List.getElem_cons_zero, List.getElem_cons_succ, List.setIfInBounds_toArray, List.set_cons_zero, List.set_cons_succ]
        refine upto_takeN (i := 6) (v := ?_) rfl (by kernel_rfl) (by kernel_rfl) (by kernel_rfl) (by kernel_rfl) (fun _ _ _ h => h) (by rfl) hS ?_ ?_
        rotate_left
        · intro wS hSw
          try dsimp only at hSw
          first | (go_simp; done) | (go_simp; with_reducible rfl)
        try simp only [Act.put, List.getElem_toArray, List.getElem_cons_zero, List.getElem_cons_succ, List.setIfInBounds_toArray, List.set_cons_zero, List.set_cons_succ]
        refine upto_step (i := 3) (by kernel_rfl) rfl ?_
        intro K hK
        go_simp
        refine (HSp.out _ (bstep hW5 hS.1)).mono ?_
        rintro e wz ⟨a1, a2, a3, a4, a5, a6, a7, pz, nz, qz, rfl, hbz⟩
        have hfz : ∀ W, (Instr.field 32 (.agg #[.int .i64 rc, .int .i64 a1, .int .i64 a2, .int .i64 a3, .int .i64 a4, .int .i64 a5, .int .i64 a6, .int .i64 a7, .slice pz nz qz]) 0).run Try.prog W = .ok (.int .i64 rc) W := fun W => codeField _ _ _ _ _ _ _ _ _ _ _ W
        have hSz : (fun W => Below w5.heap.size w5 W ∧ (W.cell? ⟨w2.heap.size, 3, none⟩ = some (.int .i64 d.con) ∧ W.cell? ⟨w2.heap.size, 4, none⟩ = some (.int .i64 d.sh) ∧ W.cell? ⟨w2.heap.size, 5, none⟩ = some (.int .i64 b) ∧ W.cell? ⟨w2.heap.size, 6, none⟩ = some (.int .i64 d.lb) ∧ W.cell? ⟨w2.heap.size, 7, none⟩ = some (.int .i64 d.lv) ∧ W.cell? ⟨w2.heap.size, 8, none⟩ = some (.slice p2 n q2)) ∧ W.cell? ⟨w5.heap.size, 0, none⟩ = some (.int .i64 rc)) wz := ⟨bstep hS.1 hbz, ⟨cell_keep hbz (hS.2.1.1), cell_keep hbz (hS.2.1.2.1), cell_keep hbz (hS.2.1.2.2.1), cell_keep hbz (hS.2.1.2.2.2.1), cell_keep hbz (hS.2.1.2.2.2.2.1), cell_keep hbz (hS.2.1.2.2.2.2.2)⟩, cell_keep hbz hS.2.2⟩
        refine hK _ _ (fun _ => hSz) ?_
        clear hK K hbz
        try simp only [Act.put, List.getElem_toArray, List.getElem_cons_zero, List.getElem_cons_succ, List.setIfInBounds_toArray, List.set_cons_zero, List.set_cons_succ]
        refine upto_takeN (i := 4) (v := (.int .i64 rc)) rfl (by kernel_rfl) (by kernel_rfl) (by kernel_rfl) (by kernel_rfl) (fun _ _ _ h => h) (by rfl) hSz ?_ ?_
        · intro wS hSw
          try dsimp only at hSw
          go_simp
        try simp only [Act.put, List.getElem_toArray, List.getElem_cons_zero, List.getElem_cons_succ, List.setIfInBounds_toArray, List.set_cons_zero, List.set_cons_succ]
        refine upto_takeN (i := 7) (v := (.bool true)) rfl (by kernel_rfl) (by kernel_rfl) (by kernel_rfl) (by kernel_rfl) (fun _ _ _ h => h) (by rfl) hSz ?_ ?_
        · intro wS hSw
          try dsimp only at hSw
          go_simp
        try simp only [Act.put, List.getElem_toArray, List.getElem_cons_zero, List.getElem_cons_succ, List.setIfInBounds_toArray, List.set_cons_zero, List.set_cons_succ]
        refine upto_takeN (i := 8) (v := (.bool true)) rfl (by kernel_rfl) (by kernel_rfl) (by kernel_rfl) (by kernel_rfl) (fun _ _ _ h => h) (by rfl) hSz ?_ ?_
        · intro wS hSw
          try dsimp only at hSw
          go_simp
        try simp only [Act.put, List.getElem_toArray, List.getElem_cons_zero, List.getElem_cons_succ, List.setIfInBounds_toArray, List.set_cons_zero, List.set_cons_succ]
        refine upto_done (by kernel_rfl) ?_
        refine NoPanic.normal ?_
        have hBz := hSz.1
        clear hSz hS
        go_wp2
        go_ret
        exact ⟨rfl, bstep hB5 hBz⟩
  · obtain ⟨rr, hrr⟩ : ∃ rr, rr = promD d b := ⟨_, rfl⟩
    have HSp : Hid (∀ W, Below w1.heap.size w1 W → Calls Try.prog 7 #[.agg #[.int .i64 d.con, .int .i64 d.sh, .int .i64 d.pr, .int .i64 d.lb, .int .i64 d.lv, .slice p1 n q1], .int .i64 b] W fun e w' => ∃ (a1 a2 a3 a4 a5 a6 a7 : Int) (p : Option Addr) (n q : Nat), e = .returned (.agg #[.int .i64 rr.code, .int .i64 a1, .int .i64 a2, .int .i64 a3, .int .i64 a4, .int .i64 a5, .int .i64 a6, .int .i64 a7, .slice p n q]) ∧ Below W.heap.size W w') := fun W hW => specPromCall _ d b _ W (HV1.out W hW) (by show d.cast.length ≤ _; rw [HN.out]; omega) (by rw [hrr])
    rw [← hrr] at hc ⊢
    clear hrr O2
    obtain ⟨rc, ro, rv, rs⟩ := rr
    dsimp only at hc HSp ⊢
    have hc' : (rc != 0) = true := bne_iff_ne.2 hc
    generalize rs.cast.length = nr at *
    go_wp2
    refine wp_region_noPanic ?_
    refine region_upto (fun W => Below w2.heap.size w2 W ∧ (W.cell? ⟨w1.heap.size, 0, none⟩ = some (.int .i64 d.con) ∧ W.cell? ⟨w1.heap.size, 1, none⟩ = some (.int .i64 d.sh) ∧ W.cell? ⟨w1.heap.size, 2, none⟩ = some (.int .i64 d.pr) ∧ W.cell? ⟨w1.heap.size, 3, none⟩ = some (.int .i64 d.lb) ∧ W.cell? ⟨w1.heap.size, 4, none⟩ = some (.int .i64 d.lv) ∧ W.cell? ⟨w1.heap.size, 5, none⟩ = some (.slice p1 n q1)) ∧ W.cell? ⟨w2.heap.size, 0, none⟩ = some (.int .i64 rc)) 8 (by kernel_rfl) ⟨by (repeat (first | exact Below.refl _ _ | assumption | refine Below.drew ?_ | refine balloc ?_ _ | refine bset ?_ (by simp; omega) _ | refine bset ?_ (by simp) _ | refine bstep ?_ (by assumption))), ⟨cell_keep (by (repeat (first | exact Below.refl _ _ | assumption | refine Below.drew ?_ | refine balloc ?_ _ | refine bset ?_ (by simp; omega) _ | refine bset ?_ (by simp) _ | refine bstep ?_ (by assumption)))) c0, cell_keep (by (repeat (first | exact Below.refl _ _ | assumption | refine Below.drew ?_ | refine balloc ?_ _ | refine bset ?_ (by simp; omega) _ | refine bset ?_ (by simp) _ | refine bstep ?_ (by assumption)))) c1, cell_keep (by (repeat (first | exact Below.refl _ _ | assumption | refine Below.drew ?_ | refine balloc ?_ _ | refine bset ?_ (by simp; omega) _ | refine bset ?_ (by simp) _ | refine bstep ?_ (by assumption)))) c2, cell_keep (by (repeat (first | exact Below.refl _ _ | assumption | refine Below.drew ?_ | refine balloc ?_ _ | refine bset ?_ (by simp; omega) _ | refine bset ?_ (by simp) _ | refine bstep ?_ (by assumption)))) c3, cell_keep (by (repeat (first | exact Below.refl _ _ | assumption | refine Below.drew ?_ | refine balloc ?_ _ | refine bset ?_ (by simp; omega) _ | refine bset ?_ (by simp) _ | refine bstep ?_ (by assumption)))) c4, cell_keep (by (repeat (first | exact Below.refl _ _ | assumption | refine Below.drew ?_ | refine balloc ?_ _ | refine bset ?_ (by simp; omega) _ | refine bset ?_ (by simp) _ | refine bstep ?_ (by assumption)))) c5⟩, by simp [go_sem]⟩ (fun hS => ?_)
    refine upto_takeN (i := 0) (v := ?_) rfl (by kernel_rfl) (by kernel_rfl) (by kernel_rfl) (by kernel_rfl) (fun _ _ _ h => h) (by rfl) hS ?_ ?_
    rotate_left
    · intro wS hSw
      try dsimp only at hSw
      first | (go_simp; done) | (go_simp; with_reducible rfl)
    try simp only [Act.put, List.getElem_toArray, List.getElem_cons_zero, List.getElem_cons_succ, List.setIfInBounds_toArray, List.set_cons_zero, List.set_cons_succ]
    refine upto_takeN (i := 1) (v := ?_) rfl (by kernel_rfl) (by kernel_rfl) (by kernel_rfl) (by kernel_rfl) (fun _ _ _ h => h) (by rfl) hS ?_ ?_
    rotate_left
    · intro wS hSw
      try dsimp only at hSw
      first | (go_simp; done) | (go_simp; with_reducible rfl)
    try simp only [Act.put, List.getElem_toArray, List.getElem_cons_zero, List.getElem_cons_succ, List.setIfInBounds_toArray, List.set_cons_zero, List.set_cons_succ]
    refine upto_takeN (i := 4) (v := ?_) rfl (by kernel_rfl) (by kernel_rfl) (by kernel_rfl) (by kernel_rfl) (fun _ _ _ h => h) (by rfl) hS ?_ ?_
    rotate_left
    · intro wS hSw
      try dsimp only at hSw
      first | (go_simp; done) | (go_simp; with_reducible rfl)
    try simp only [Act.put, List.getElem_toArray, List.getElem_cons_zero, List.getElem_cons_succ, List.setIfInBounds_toArray, List.set_cons_zero, List.set_cons_succ]
    refine upto_takeN (i := 5) (v := ?_) rfl (by kernel_rfl) (by kernel_rfl) (by kernel_rfl) (by kernel_rfl) (fun _ _ _ h => h) (by rfl) hS ?_ ?_
    rotate_left
    · intro wS hSw
      try dsimp only at hSw
      first | (go_simp; done) | (go_simp; with_reducible rfl)
    try simp only [Act.put, List.getElem_toArray, List.getElem_cons_zero, List.getElem_cons_succ, List.setIfInBounds_toArray, List.set_cons_zero, List.set_cons_succ]
    refine upto_step (i := 2) (by kernel_rfl) rfl ?_
    intro K hK
    go_simp
    refine (HSp.out _ (bstep hW2 hS.1)).mono ?_
    rintro e wz ⟨a1, a2, a3, a4, a5, a6, a7, pz, nz, qz, rfl, hbz⟩
    have hfz : ∀ W, (Instr.field 32 (.agg #[.int .i64 rc, .int .i64 a1, .int .i64 a2, .int .i64 a3, .int .i64 a4, .int .i64 a5, .int .i64 a6, .int .i64 a7, .slice pz nz qz]) 0).run Try.prog W = .ok (.int .i64 rc) W := fun W => codeField _ _ _ _ _ _ _ _ _ _ _ W
    have hSz : (fun W => Below w2.heap.size w2 W ∧ (W.cell? ⟨w1.heap.size, 0, none⟩ = some (.int .i64 d.con) ∧ W.cell? ⟨w1.heap.size, 1, none⟩ = some (.int .i64 d.sh) ∧ W.cell? ⟨w1.heap.size, 2, none⟩ = some (.int .i64 d.pr) ∧ W.cell? ⟨w1.heap.size, 3, none⟩ = some (.int .i64 d.lb) ∧ W.cell? ⟨w1.heap.size, 4, none⟩ = some (.int .i64 d.lv) ∧ W.cell? ⟨w1.heap.size, 5, none⟩ = some (.slice p1 n q1)) ∧ W.cell? ⟨w2.heap.size, 0, none⟩ = some (.int .i64 rc)) wz := ⟨bstep hS.1 hbz, ⟨cell_keep hbz (hS.2.1.1), cell_keep hbz (hS.2.1.2.1), cell_keep hbz (hS.2.1.2.2.1), cell_keep hbz (hS.2.1.2.2.2.1), cell_keep hbz (hS.2.1.2.2.2.2.1), cell_keep hbz (hS.2.1.2.2.2.2.2)⟩, cell_keep hbz hS.2.2⟩
    refine hK _ _ (fun _ => hSz) ?_
    clear hK K hbz
    try simp only [Act.put, List.getElem_toArray, List.getElem_cons_zero, List.getElem_cons_succ, List.setIfInBounds_toArray, List.set_cons_zero, List.set_cons_succ]
    refine upto_takeN (i := 3) (v := (.int .i64 rc)) rfl (by kernel_rfl) (by kernel_rfl) (by kernel_rfl) (by kernel_rfl) (fun _ _ _ h => h) (by rfl) hSz ?_ ?_
    · intro wS hSw
      try dsimp only at hSw
      go_simp
    try simp only [Act.put, List.getElem_toArray, List.getElem_cons_zero, List.getElem_cons_succ, List.setIfInBounds_toArray, List.set_cons_zero, List.set_cons_succ]
    refine upto_takeN (i := 6) (v := (.bool true)) rfl (by kernel_rfl) (by kernel_rfl) (by kernel_rfl) (by kernel_rfl) (fun _ _ _ h => h) (by rfl) hSz ?_ ?_
    · intro wS hSw
      try dsimp only at hSw
      go_simp
    try simp only [Act.put, List.getElem_toArray, List.getElem_cons_zero, List.getElem_cons_succ, List.setIfInBounds_toArray, List.set_cons_zero, List.set_cons_succ]
    refine upto_takeN (i := 7) (v := (.bool true)) rfl (by kernel_rfl) (by kernel_rfl) (by kernel_rfl) (by kernel_rfl) (fun _ _ _ h => h) (by rfl) hSz ?_ ?_
    · intro wS hSw
      try dsimp only at hSw
      go_simp
    try simp only [Act.put, List.getElem_toArray, List.getElem_cons_zero, List.getElem_cons_succ, List.setIfInBounds_toArray, List.set_cons_zero, List.set_cons_succ]
    refine upto_done (by kernel_rfl) ?_
    refine NoPanic.normal ?_
    have hBz := hSz.1
    clear hSz hS
    go_wp2
    go_ret
    exact ⟨rfl, bstep hB2 hBz⟩
end promisesLaw

end Go.Proofs.Ytjhmdnlkpkagiaa

