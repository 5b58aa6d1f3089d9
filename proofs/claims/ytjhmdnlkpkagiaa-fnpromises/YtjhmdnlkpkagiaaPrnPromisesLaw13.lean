import Derived.Test.YtjhmdnlkpkagiaaPrnPromisesLaw11
import Derived.Test.YtjhmdnlkpkagiaaPrnPromisesLaw12
import Derived.BigQuiet
import Derived.Deep.QuietTactic
import Derived.Deep.RegionHeld3
import Derived.Test.YtjhmdnlkpkagiaaPrnPromisesLaw8
import Derived.Test.YtjhmdnlkpkagiaaPrnPromisesLaw4
import Derived.PlainAid
import Derived.Laws.BitsAllLaws
import Derived.Test.YtjhmdnlkpkagiaaPrnPromisesLaw9
import Derived.Test.YtjhmdnlkpkagiaaPrnPromisesLaw1
import Derived.Deep.DrawnRows
import Derived.Lib.ConvBytes
import Derived.Test.YtjhmdnlkpkagiaaPrnPromisesLaw7
import Derived.Test.YtjhmdnlkpkagiaaPrnPromisesLaw10
import Derived.Laws.BytesArg
import Derived.Deep.Slices
import Derived.Lib.SmallJoins

/-
  The draw of a slot.
-/
set_option linter.unusedVariables false
set_option linter.unusedSimpArgs false
namespace Go.Proofs.Ytjhmdnlkpkagiaa
open Go.RowKit
set_option linter.unusedSectionVars false
variable [DecidableEq Vot] [Inhabited Vot] [DecidableEq Slt] [Inhabited Slt] [DecidableEq SltR] [Inhabited SltR] [DecidableEq Bal] [Inhabited Bal] [DecidableEq Ledg] [Inhabited Ledg] [DecidableEq Leg] [Inhabited Leg] [DecidableEq Acc] [Inhabited Acc] [DecidableEq AccR] [Inhabited AccR] [DecidableEq AccsR] [Inhabited AccsR] [DecidableEq SltsR] [Inhabited SltsR] [DecidableEq Logg] [Inhabited Logg] [DecidableEq LoggR] [Inhabited LoggR] [DecidableEq BytesR] [Inhabited BytesR] [DecidableEq RecsR] [Inhabited RecsR]
attribute [local go_sem ↓] Go.wp_at_zero Go.wp_at_succ

set_option maxRecDepth 20000 in
set_option maxHeartbeats 16000000 in
theorem l8Slot_any (B : Nat) (w : World) (bs : Nat) (a : Option Addr) (k cap t : Nat) (h : Src B w bs a k cap t) (ht : t ≤ 900) :
    Calls Try.prog 12 #[.pointer (some ⟨bs, 0, none⟩)] w (SlE B bs a k cap t w) := by
  have hlt := h.lt
  have hne : w.heap.size ≠ bs := by omega
  obtain ⟨i0, hi, hz0, hz1, hz2⟩ := info_parts infoVot
  go_enter Try.func12, Try.ntmps12
  go_wp2_with fail
  refine (l1Next_any B _ bs a k cap t 2 (h.below (by (repeat (first | exact Below.refl _ _ | assumption | refine Below.drew ?_ | refine balloc ?_ _ | refine bset ?_ (by simp; omega) _ | refine bset ?_ (by simp) _ | refine bstep ?_ (by assumption))))) (by omega) (by omega) (by omega)).mono ?_
  rintro e w1 ⟨n1, rfl, hn1, h1, m1⟩
  have R : Sl6 w1 w.heap.size zeroS (.slice none 0 0) := Sl6.new zeroS (.slice none 0 0) _ m1 hne
  have M1 : Mod (fun b => b = bs) w w1 := (Mod.of_below (balloc (Below.refl _ _) _)).trans m1
  have hw1 : IntKind.i64.wrap (1 + (n1 : Int)) = 1 + (n1 : Int) := wrapI _ (by omega) (by omega)
  clear m1 h
  go_wp2_with fail
  refine (l1Next_any B w1 bs a k cap (t + 1) 2 h1 (by omega) (by omega) (by omega)).mono ?_
  rintro e w2 ⟨n2, rfl, hn2, h2, m2⟩
  replace R := R.mod m2 hne
  have M2 := M1.trans m2
  clear m2 h1 M1
  have hid : idOk (1 + (n1 : Int)) (n2 : Int) = true := by unfold idOk inB; simp; omega
  have hNw := specNew_ok (1 + (n1 : Int)) (n2 : Int) w2 hid
  go_wp2_with fail
  refine hNw.mono ?_
  rintro e w3 ⟨p0, q0, F0, rfl, o3, hb3⟩
  clear hNw hw1 hid
  obtain ⟨dc, hdc⟩ : ∃ dc : Int, 1 + (n1 : Int) = dc := ⟨_, rfl⟩
  obtain ⟨ds, hds⟩ : ∃ ds : Int, (n2 : Int) = ds := ⟨_, rfl⟩
  rw [hdc, hds] at o3 ⊢
  clear hdc hds
  have hfl : ∀ W, (Instr.field 32 (.agg #[.int .i64 0, .int .i64 0, .int .i64 0, .int .i64 dc, .int .i64 ds, .int .i64 (-1), .int .i64 (-1), .int .i64 0, .slice p0 0 q0]) 2).run Try.prog W = .ok (.agg #[.int .i64 dc, .int .i64 ds, .int .i64 (-1), .int .i64 (-1), .int .i64 0, .slice p0 0 q0]) W := fun W => slotField _ _ _ _ _ _ _ _ p0 0 q0 W
  obtain ⟨u, F3, e3, o4, _⟩ := o3
  simp only [freS, Value.agg.injEq, Array.mk.injEq, List.cons.injEq, and_true, true_and] at e3
  subst e3
  have h3 := h2.below hb3
  have hR2 := R.lt
  replace R := R.below hb3
  have M3 := M2.transB hb3
  have hz2' := M2.size
  have hz3 := hb3.size
  have HF3 : Hid (∀ c, F3 c → w2.heap.size ≤ c ∧ c < w3.heap.size) := fun c hc => votsR.rng o4 c hc
  have hRl := R.lt
  clear hb3 h2 M2
  have hl3 := h3.lt
  have hPb : w3.heap.size ≠ bs := by omega
  go_wp2_with fail
  refine (l1Next_any B _ bs a k cap (t + 1 + 1) 7 (h3.below (by (repeat (first | exact Below.refl _ _ | assumption | refine Below.drew ?_ | refine balloc ?_ _ | refine bset ?_ (by simp; omega) _ | refine bset ?_ (by simp) _ | refine bstep ?_ (by assumption))))) (by omega) (by omega) (by omega)).mono ?_
  rintro e w5 ⟨n5, rfl, hn5, h5, m5⟩
  have X : Sl6 w5 w3.heap.size ⟨dc, ds, -1, -1, 0, []⟩ (.slice p0 0 q0) := Sl6.new ⟨dc, ds, -1, -1, 0, []⟩ (.slice p0 0 q0) _ m5 hPb
  replace R := (R.below (balloc (Below.refl _ _) _)).mod m5 hne
  have O5 := votsR.base (votsR.mod (votsR.alloc o4 _) m5 (fun c hc e => by have := HF3.out c hc; omega)) (show w.heap.size + 1 ≤ w2.heap.size by omega)
  have M5 := (M3.transB (balloc (Below.refl _ _) _)).trans m5
  have hnP : ¬ F3 w3.heap.size := fun e => by have := HF3.out _ e; omega
  clear m5 M3 h3 o4
  obtain ⟨P, hP⟩ : ∃ P, P = w3.heap.size := ⟨_, rfl⟩
  rw [← hP] at X hPb hnP hz3
  have hPw : w.heap.size < P := by omega
  rw [← hP]
  clear hP HF3 hz2' hz3 hl3 hRl hfl
  go_wp2
  go_loopw [4] (fun i W => ∃ (r t1 : Nat) (d : Slt) (p : Option Addr) (q : Nat) (F : Nat → Prop), i = .int .i64 r ∧ r ≤ 6 ∧ t1 + 3 * r ≤ t + 30 ∧ d.cast.length ≤ 61 ∧ Hid (Sl6 W w.heap.size zeroS (.slice none 0 0)) ∧ Hid (Sl6 W P d (.slice p d.cast.length q)) ∧ Hid (votsR.O W (w.heap.size + 1) F (.slice p d.cast.length q) d.cast) ∧ Hid (¬ F P) ∧ Hid (Src B W bs a k cap t1) ∧ Hid (Mod (fun b => b = bs) w W)) (fun i _ => (intOf i).toNat)
  case atStart => exact ⟨n5, t + 1 + 1 + 1, ⟨dc, ds, -1, -1, 0, []⟩, p0, q0, F3, rfl, by omega, by omega, by simp, R, X, O5, hnP, h5, M5⟩
  case round =>
    clear R X O5 hnP h5 M5
    obtain ⟨r, t1, d, p, q, F, rfl, hr6, ht1, hdl, HR, HX, HO, HnP, HS, HM⟩ := hrel
    cases r with
    | succ r =>
      go_wp2_with fail
      refine (l1Next_any B wr bs a k cap t1 8 HS.out (by omega) (by omega) (by omega)).mono ?_
      rintro e w6 ⟨b, rfl, hb, h6, m6⟩
      have HFb : Hid (∀ c, F c → w.heap.size + 1 ≤ c) := fun c hc => (votsR.rng HO.out c hc).1
      have X6 := HX.out.mod m6 hPb
      have R6 := HR.out.mod m6 hne
      have O6 := votsR.mod HO.out m6 (fun c hc e => by have := HFb.out c hc; omega)
      have M6 := HM.out.trans m6
      have HV6 : sltR.V w6 (.agg #[.int .i64 d.con, .int .i64 d.sh, .int .i64 d.pr, .int .i64 d.lb, .int .i64 d.lv, .slice p d.cast.length q]) d := ⟨_, rfl, votsR.ofO O6⟩
      have X6' := X6
      obtain ⟨x0, x1, x2, x3, x4, x5, xf, xl⟩ := X6'
      clear m6 HX HR HO HM HS
      go_wp2_with fail
      refine (specProm_u _ d b w6 HV6 (by show d.cast.length ≤ _; omega)).mono ?_
      rintro e w7 ⟨v7, F7, rfl, o7, hb7⟩
      obtain ⟨p7, q7, G, rfl, OR⟩ := sltRR_open o7
      have hl7 : (promD d b).slot.cast.length ≤ 61 := by have h1 := promD_le d b; have h2 : wtSltR (promD d b) = (promD d b).slot.cast.length := rfl; have h3 : wtSlt d = d.cast.length := rfl; omega
      obtain ⟨rr, hrr⟩ : ∃ rr, rr = promD d b := ⟨_, rfl⟩
      rw [← hrr] at OR hl7 ⊢
      clear hrr o7 x0 x1 x2 x3 x4 x5 xf xl HV6
      have HLr : Hid (rr.slot.cast.length ≤ 61) := hl7
      have HFq : Hid (∀ c, F c → c < w7.heap.size) := fun c hc => by have := (votsR.rng O6 c hc).2; have := hb7.size; omega
      have HG : Hid (∀ c, G c → w6.heap.size ≤ c ∧ c < w7.heap.size) := fun c hc => votsR.rng OR c hc
      have hz6 := M6.size
      have hz7 := hb7.size
      have h7 := h6.below hb7
      have X7 := X6.below hb7
      have R7 := R6.below hb7
      have O7 := votsR.keep O6 hb7
      have M7 := M6.transB hb7
      have hPw : P < w6.heap.size := X6.lt
      have HGP : Hid (¬ G P) := fun e => by have := HG.out P e; omega
      clear h6 X6 R6 O6 M6 hb7 hl7
      have hl7b := h7.lt
      have hQb : w7.heap.size ≠ bs := by omega
      go_wp2_with fail
      refine (l1Chance_any B _ bs a k cap (t1 + 1) 2 (h7.below (by (repeat (first | exact Below.refl _ _ | assumption | refine Below.drew ?_ | refine balloc ?_ _ | refine bset ?_ (by simp; omega) _ | refine bset ?_ (by simp) _ | refine bstep ?_ (by assumption))))) (by omega) (by omega) (by omega)).mono ?_
      rintro e w8 ⟨ch, rfl, h8, m8⟩
      have Y := Sl9.new rr (.slice p7 rr.slot.cast.length q7) _ m8 hQb
      have X8 := (X7.below (balloc (Below.refl _ _) _)).mod m8 hPb
      have R8 := (R7.below (balloc (Below.refl _ _) _)).mod m8 hne
      have O8 := votsR.mod (votsR.alloc O7 _) m8 (fun c hc e => by have := HFb.out c hc; omega)
      have OR8 := votsR.mod (votsR.alloc OR _) m8 (fun c hc e => by have := HG.out c hc; omega)
      replace OR := votsR.base OR8 (show w.heap.size + 1 ≤ w6.heap.size by omega)
      have M8 := (M7.transB (balloc (Below.refl _ _) _)).trans m8
      have hz8 := m8.size
      simp only [World.size_alloc] at hz8
      clear OR8 X7 R7 O7 M7 m8 h7
      cases ch with
      | false =>
        have hlr : rr.slot.cast.length ≤ 61 := HLr.out
        obtain ⟨y0, y1, y2, y3, y4, y5, y6, y7, y8, yf, yl⟩ := Y
        obtain ⟨x0, x1, x2, x3, x4, x5, xf, xl⟩ := X8
        obtain ⟨n7, hn7⟩ : ∃ n7, n7 = rr.slot.cast.length := ⟨_, rfl⟩
        obtain ⟨nd, hnd⟩ : ∃ nd, nd = d.cast.length := ⟨_, rfl⟩
        have HN7 : Hid (rr.slot.cast.length = n7) := hn7.symm
        have HND : Hid (d.cast.length = nd) := hnd.symm
        rw [← hn7] at y8
        rw [← hnd] at x5
        clear hn7 hnd
        have HX8 : Hid (Sl6 (w8) P d (.slice p d.cast.length q)) := by rw [Hid, HND.out]; exact ⟨x0, x1, x2, x3, x4, x5, xf, xl⟩
        have HR8 : Hid (Sl6 (w8) w.heap.size zeroS (.slice none 0 0)) := R8
        have HO8 : Hid (votsR.O (w8) (w.heap.size + 1) F (.slice p d.cast.length q) d.cast) := O8
        have HOR : Hid (votsR.O (w8) (w.heap.size + 1) G (.slice p7 rr.slot.cast.length q7) rr.slot.cast) := OR
        have HS8 : Hid (Src B (w8) bs a k cap (t1 + 1 + 1)) := h8
        have HM8 : Hid (Mod (fun b => b = bs) w (w8)) := M8
        clear R8 O8 OR h8 M8
        by_cases hc : rr.code = 0
        · rw [hc] at y0
          clear hc
          go_wp2
          have hm := set6_mod (w8) P (.int .i64 rr.slot.con) (.int .i64 rr.slot.sh) (.int .i64 rr.slot.pr) (.int .i64 rr.slot.lb) (.int .i64 rr.slot.lv) (.slice p7 n7 q7)
          have HX9 := HX8.out.set rr.slot (.slice p7 n7 q7)
          refine ⟨⟨r, t1 + 1 + 1, rr.slot, p7, q7, G, by go_num, by omega, by omega, hlr, HR8.out.mod hm (fun e => by omega), by rw [HN7.out]; exact HX9, votsR.mod HOR.out hm (fun b hb e => HGP.out (by rw [← e]; exact hb)), HGP.out, HS8.out.mod hm (fun b e => by omega), HM8.out.trans2 hm (fun b e hb => by omega)⟩, by simp [intOf]⟩
        · have hc1 : (rr.code == 0) = false := beq_eq_false_iff_ne.2 hc
          generalize rr.code = rc at *
          go_wp2
          exact ⟨⟨r, t1 + 1 + 1, d, p, q, F, by go_num, by omega, by omega, by omega, HR8.out, HX8.out, HO8.out, HnP.out, HS8.out, HM8.out⟩, by simp [intOf]⟩
      | true =>
        have HV8 : Hid (∀ W, Mod (fun b => b = bs) w8 W → votsR.O W (w.heap.size + 1) F (.slice p d.cast.length q) d.cast) := fun W hm => votsR.mod O8 hm (fun c hc e => by have := HFb.out c hc; omega)
        obtain ⟨y0, y1, y2, y3, y4, y5, y6, y7, y8, yf, yl⟩ := Y
        have HY : Hid (Sl9 w8 w7.heap.size rr (.slice p7 rr.slot.cast.length q7)) := ⟨y0, y1, y2, y3, y4, y5, y6, y7, y8, yf, yl⟩
        obtain ⟨x0, x1, x2, x3, x4, x5, xf, xl⟩ := X8
        have HX8 : Hid (Sl6 w8 P d (.slice p d.cast.length q)) := ⟨x0, x1, x2, x3, x4, x5, xf, xl⟩
        clear OR HG HGP HLr
        go_wp2
        refine wp_region_noPanic ?_
        refine region_upto (fun W => W.cell? ⟨P, 0, none⟩ = some (.int .i64 d.con) ∧ W.cell? ⟨P, 1, none⟩ = some (.int .i64 d.sh) ∧ W.cell? ⟨P, 2, none⟩ = some (.int .i64 d.pr) ∧ W.cell? ⟨P, 3, none⟩ = some (.int .i64 d.lb) ∧ W.cell? ⟨P, 4, none⟩ = some (.int .i64 d.lv) ∧ W.cell? ⟨P, 5, none⟩ = some (.slice p d.cast.length q)) 6 (by kernel_rfl) ⟨x0, x1, x2, x3, x4, x5⟩ (fun hS => ?_)
        refine upto_take (i := 0) (v := ?_) rfl (by kernel_rfl) (by kernel_rfl) (by kernel_rfl) (by kernel_rfl) (fun _ _ _ h => h) (by rfl) hS ?_ ?_
        rotate_left
        · intro wS hSw
          try dsimp only at hSw
          first | (go_simp; done) | (go_simp; with_reducible rfl)
        try simp only [Act.put, List.getElem_toArray, List.getElem_cons_zero, List.getElem_cons_succ, List.setIfInBounds_toArray, List.set_cons_zero, List.set_cons_succ]
        refine upto_take (i := 1) (v := ?_) rfl (by kernel_rfl) (by kernel_rfl) (by kernel_rfl) (by kernel_rfl) (fun _ _ _ h => h) (by rfl) hS ?_ ?_
        rotate_left
        · intro wS hSw
          try dsimp only at hSw
          first | (go_simp; done) | (go_simp; with_reducible rfl)
        try simp only [Act.put, List.getElem_toArray, List.getElem_cons_zero, List.getElem_cons_succ, List.setIfInBounds_toArray, List.set_cons_zero, List.set_cons_succ]
        refine upto_take (i := 2) (v := ?_) rfl (by kernel_rfl) (by kernel_rfl) (by kernel_rfl) (by kernel_rfl) (fun _ _ _ h => h) (by rfl) hS ?_ ?_
        rotate_left
        · intro wS hSw
          try dsimp only at hSw
          first | (go_simp; done) | (go_simp; with_reducible rfl)
        try simp only [Act.put, List.getElem_toArray, List.getElem_cons_zero, List.getElem_cons_succ, List.setIfInBounds_toArray, List.set_cons_zero, List.set_cons_succ]
        refine upto_step (i := 3) (by kernel_rfl) rfl ?_
        intro K hK
        go_simp
        refine (l1Next_any B _ bs a k cap (t1 + 1 + 1) 2 h8.drew' (by omega) (by omega) (by omega)).mono ?_
        rintro e w9 ⟨n9, rfl, hn9, h9, m9⟩
        have m9' : Mod (fun b => b = bs) w8 w9 := (Mod.drew1 (Mod.refl _ w8)).trans m9
        have v9 : IntKind.i64.wrap (1 + (n9 : Int)) = 1 + (n9 : Int) := wrapI _ (by omega) (by omega)
        have X9 := HX8.out.mod m9' hPb
        have Y9 := HY.out.mod m9' hQb
        have R9 := R8.mod m9' hne
        have O9 := HV8.out w9 m9'
        have M9 := M8.trans m9'
        have hz9 := m9'.size
        clear x0 x1 x2 x3 x4 x5 xf xl y0 y1 y2 y3 y4 y5 y6 y7 y8 yf yl HX8 HY R8 O8 HV8 M8 m9 m9' h8 hS
        obtain ⟨x0, x1, x2, x3, x4, x5, xf, xl⟩ := X9
        have X9 : Sl6 w9 P d (.slice p d.cast.length q) := ⟨x0, x1, x2, x3, x4, x5, xf, xl⟩
        have hS9 : (fun W => W.cell? ⟨P, 0, none⟩ = some (.int .i64 d.con) ∧ W.cell? ⟨P, 1, none⟩ = some (.int .i64 d.sh) ∧ W.cell? ⟨P, 2, none⟩ = some (.int .i64 d.pr) ∧ W.cell? ⟨P, 3, none⟩ = some (.int .i64 d.lb) ∧ W.cell? ⟨P, 4, none⟩ = some (.int .i64 d.lv) ∧ W.cell? ⟨P, 5, none⟩ = some (.slice p d.cast.length q)) w9 := ⟨x0, x1, x2, x3, x4, x5⟩
        refine hK _ _ (fun _ => hS9) ?_
        clear hK K
        try simp only [Act.put, List.getElem_toArray, List.getElem_cons_zero, List.getElem_cons_succ, List.setIfInBounds_toArray, List.set_cons_zero, List.set_cons_succ]
        refine upto_take (i := 4) (v := ?_) rfl (by kernel_rfl) (by kernel_rfl) (by kernel_rfl) (by kernel_rfl) (fun _ _ _ h => h) (by rfl) hS9 ?_ ?_
        rotate_left
        · intro wS hSw
          try dsimp only at hSw
          first | (go_simp; done) | (go_simp; with_reducible rfl)
        try simp only [Act.put, List.getElem_toArray, List.getElem_cons_zero, List.getElem_cons_succ, List.setIfInBounds_toArray, List.set_cons_zero, List.set_cons_succ]
        refine upto_step (i := 5) (by kernel_rfl) rfl ?_
        intro K hK
        go_simp
        have HV9 : sltR.V w9 (.agg #[.int .i64 d.con, .int .i64 d.sh, .int .i64 d.pr, .int .i64 d.lb, .int .i64 d.lv, .slice p d.cast.length q]) d := ⟨_, rfl, votsR.ofO O9⟩
        refine (specAcc_u _ d b (1 + (n9 : Int)) _ (sltR.below HV9 (by (repeat (first | exact Below.refl _ _ | assumption | refine Below.drew ?_ | refine balloc ?_ _ | refine bset ?_ (by simp; omega) _ | refine bset ?_ (by simp) _ | refine bstep ?_ (by assumption))))) (by show d.cast.length ≤ _; omega)).mono ?_
        rintro e w10 ⟨v10, F10, rfl, o10, hb10⟩
        replace hb10 : Below w9.heap.size w9 w10 := bstep (by (repeat (first | exact Below.refl _ _ | assumption | refine Below.drew ?_ | refine balloc ?_ _ | refine bset ?_ (by simp; omega) _ | refine bset ?_ (by simp) _ | refine bstep ?_ (by assumption)))) hb10
        obtain ⟨p7, q7, G, rfl, OR⟩ := sltRR_open o10
        have hl7 : (accD d b (1 + (n9 : Int))).slot.cast.length ≤ 61 := accD_le d b (1 + (n9 : Int))
        obtain ⟨rr, hrr⟩ : ∃ rr, rr = accD d b (1 + (n9 : Int)) := ⟨_, rfl⟩
        rw [← hrr] at OR hl7 ⊢
        clear hrr o10 HV9
        have HLr : Hid (rr.slot.cast.length ≤ 61) := hl7
        have HG : Hid (∀ c, G c → w9.heap.size ≤ c) := fun c hc => by have := (votsR.rng OR c hc).1; simpa using this
        have HGP : Hid (¬ G P) := fun e => by have := HG.out P e; omega
        have Y10 := Y9.below hb10
        have X10 := X9.below hb10
        have R10 := R9.below hb10
        have O10 := votsR.keep O9 hb10
        have M10 := M9.transB hb10
        have h10 := h9.below hb10
        have hS10 : (fun W => W.cell? ⟨P, 0, none⟩ = some (.int .i64 d.con) ∧ W.cell? ⟨P, 1, none⟩ = some (.int .i64 d.sh) ∧ W.cell? ⟨P, 2, none⟩ = some (.int .i64 d.pr) ∧ W.cell? ⟨P, 3, none⟩ = some (.int .i64 d.lb) ∧ W.cell? ⟨P, 4, none⟩ = some (.int .i64 d.lv) ∧ W.cell? ⟨P, 5, none⟩ = some (.slice p d.cast.length q)) w10 := ⟨X10.c0, X10.c1, X10.c2, X10.c3, X10.c4, X10.c5⟩
        refine hK _ _ (fun _ => hS10) ?_
        clear hK K X9 R9 O9 M9 h9 hl7 Y9 hS9 x0 x1 x2 x3 x4 x5 xf xl
        obtain ⟨y0, y1, y2, y3, y4, y5, y6, y7, y8, yf, yl⟩ := Y10
        have Y10 : Sl9 w10 w7.heap.size _ _ := ⟨y0, y1, y2, y3, y4, y5, y6, y7, y8, yf, yl⟩
        try simp only [Act.put, List.getElem_toArray, List.getElem_cons_zero, List.getElem_cons_succ, List.setIfInBounds_toArray, List.set_cons_zero, List.set_cons_succ]
        refine upto_step (i := 6) (by kernel_rfl) rfl ?_
        intro K hK
        go_simp
        refine hK _ _ (fun h => absurd rfl h) ?_
        clear hK K hS10 y0 y1 y2 y3 y4 y5 y6 y7 y8 yf yl
        refine upto_done (by kernel_rfl) ?_
        refine NoPanic.normal ?_
        have hm := set9_mod w10 w7.heap.size (.int .i64 rr.code) (.int .i64 rr.ob) (.int .i64 rr.ov) (.int .i64 rr.slot.con) (.int .i64 rr.slot.sh) (.int .i64 rr.slot.pr) (.int .i64 rr.slot.lb) (.int .i64 rr.slot.lv) (.slice p7 rr.slot.cast.length q7)
        have Y := Y10.set rr (.slice p7 rr.slot.cast.length q7)
        have X8 := X10.mod hm (fun e => by omega)
        have R8 := R10.mod hm (fun e => by omega)
        have O8 := votsR.mod O10 hm (fun c hc e => by have := HFq.out c hc; omega)
        have OR8 := votsR.mod OR hm (fun c hc e => by have := HG.out c hc; omega)
        replace OR := votsR.base OR8 (show w.heap.size + 1 ≤ _ by first | omega | (simp; omega))
        have h8 := h10.mod hm (fun c e => by omega)
        have M8 := M10.trans2 hm (fun c e hb => by omega)
        clear OR8 X10 R10 O10 M10 h10 hm Y10
        obtain ⟨wz, hwz⟩ : ∃ wz, wz = (((((((((w10).setCell ⟨w7.heap.size, 0, none⟩ (.int .i64 rr.code)).setCell ⟨w7.heap.size, 1, none⟩ (.int .i64 rr.ob)).setCell ⟨w7.heap.size, 2, none⟩ (.int .i64 rr.ov)).setCell ⟨w7.heap.size, 3, none⟩ (.int .i64 rr.slot.con)).setCell ⟨w7.heap.size, 4, none⟩ (.int .i64 rr.slot.sh)).setCell ⟨w7.heap.size, 5, none⟩ (.int .i64 rr.slot.pr)).setCell ⟨w7.heap.size, 6, none⟩ (.int .i64 rr.slot.lb)).setCell ⟨w7.heap.size, 7, none⟩ (.int .i64 rr.slot.lv)).setCell ⟨w7.heap.size, 8, none⟩ (.slice p7 rr.slot.cast.length q7) := ⟨_, rfl⟩
        rw [← hwz] at Y X8 R8 O8 OR h8 M8 ⊢
        clear hwz
        have hlr : rr.slot.cast.length ≤ 61 := HLr.out
        obtain ⟨y0, y1, y2, y3, y4, y5, y6, y7, y8, yf, yl⟩ := Y
        obtain ⟨x0, x1, x2, x3, x4, x5, xf, xl⟩ := X8
        obtain ⟨n7, hn7⟩ : ∃ n7, n7 = rr.slot.cast.length := ⟨_, rfl⟩
        obtain ⟨nd, hnd⟩ : ∃ nd, nd = d.cast.length := ⟨_, rfl⟩
        have HN7 : Hid (rr.slot.cast.length = n7) := hn7.symm
        have HND : Hid (d.cast.length = nd) := hnd.symm
        rw [← hn7] at y8
        rw [← hnd] at x5
        clear hn7 hnd
        have HX8 : Hid (Sl6 (wz) P d (.slice p d.cast.length q)) := by rw [Hid, HND.out]; exact ⟨x0, x1, x2, x3, x4, x5, xf, xl⟩
        have HR8 : Hid (Sl6 (wz) w.heap.size zeroS (.slice none 0 0)) := R8
        have HO8 : Hid (votsR.O (wz) (w.heap.size + 1) F (.slice p d.cast.length q) d.cast) := O8
        have HOR : Hid (votsR.O (wz) (w.heap.size + 1) G (.slice p7 rr.slot.cast.length q7) rr.slot.cast) := OR
        have HS8 : Hid (Src B (wz) bs a k cap (t1 + 1 + 1 + 1)) := h8
        have HM8 : Hid (Mod (fun b => b = bs) w (wz)) := M8
        clear R8 O8 OR h8 M8
        by_cases hc : rr.code = 0
        · rw [hc] at y0
          clear hc
          go_wp2
          have hm := set6_mod (wz) P (.int .i64 rr.slot.con) (.int .i64 rr.slot.sh) (.int .i64 rr.slot.pr) (.int .i64 rr.slot.lb) (.int .i64 rr.slot.lv) (.slice p7 n7 q7)
          have HX9 := HX8.out.set rr.slot (.slice p7 n7 q7)
          refine ⟨⟨r, t1 + 1 + 1 + 1, rr.slot, p7, q7, G, by go_num, by omega, by omega, hlr, HR8.out.mod hm (fun e => by omega), by rw [HN7.out]; exact HX9, votsR.mod HOR.out hm (fun b hb e => HGP.out (by rw [← e]; exact hb)), HGP.out, HS8.out.mod hm (fun b e => by omega), HM8.out.trans2 hm (fun b e hb => by omega)⟩, by simp [intOf]⟩
        · have hc1 : (rr.code == 0) = false := beq_eq_false_iff_ne.2 hc
          generalize rr.code = rc at *
          go_wp2
          exact ⟨⟨r, t1 + 1 + 1 + 1, d, p, q, F, by go_num, by omega, by omega, by omega, HR8.out, HX8.out, HO8.out, HnP.out, HS8.out, HM8.out⟩, by simp [intOf]⟩
    | zero =>
      go_wp2_with fail
      refine (l1Next_any B wr bs a k cap t1 24 HS.out (by omega) (by omega) (by omega)).mono ?_
      rintro e w6 ⟨n6, rfl, hn6, h6, m6⟩
      have HFb : Hid (∀ c, F c → w.heap.size + 1 ≤ c ∧ c < wr.heap.size) := fun c hc => votsR.rng HO.out c hc
      have X6 := HX.out.mod m6 hPb
      have R6 := HR.out.mod m6 hne
      have O6 := votsR.mod HO.out m6 (fun c hc e => by have := HFb.out c hc; omega)
      have M6 := HM.out.trans m6
      have hz6 := m6.size
      have hl6 := h6.lt
      have hPw6 := X6.lt
      have hwz6 := M6.size
      clear m6 HX HR HO HM HS
      obtain ⟨nd, hnd⟩ : ∃ nd, nd = d.cast.length := ⟨_, rfl⟩
      have HND : Hid (d.cast.length = nd) := hnd.symm
      rw [← hnd] at X6 O6 hdl
      clear hnd
      have hPR : P ≠ w.heap.size := by omega
      have hn6b : (0 : Int) ≤ n6 := by omega
      by_cases c0 : n6 = 0
      · subst c0
        go_wp2_with fail
        refine (l1Pick_any B _ bs a k cap (t1 + 1) w6.heap.size 3 [0, -1, 1000000001] (h6.below (by (repeat (first | exact Below.refl _ _ | assumption | refine Below.drew ?_ | refine balloc ?_ _ | refine bset ?_ (by simp; omega) _ | refine bset ?_ (by simp) _ | refine bstep ?_ (by assumption))))) (by omega) (by omega) (by simp) (by simp) ?_).mono ?_
        · intro i hi
          match i, hi with
          | 0, _ => simp [go_sem]
          | 1, _ => simp [go_sem]
          | 2, _ => simp [go_sem]
        rintro e w7 ⟨v, rfl, hq, h7, m7⟩
        obtain ⟨x0, x1, x2, x3, x4, x5, xf, xl⟩ := (X6.below (balloc (Below.refl _ _) _)).mod m7 hPb
        have R7 := (R6.below (balloc (Below.refl _ _) _)).mod m7 hne
        obtain ⟨r0, r1, r2, r3, r4, r5, rf, rl⟩ := R7
        have R7 : Sl6 w7 w.heap.size zeroS (.slice none 0 0) := ⟨r0, r1, r2, r3, r4, r5, rf, rl⟩
        have O7 := votsR.mod (votsR.alloc O6 _) m7 (fun c hc e => by have := HFb.out c hc; omega)
        have M7 := (M6.transB (balloc (Below.refl _ _) _)).trans m7
        clear m7 h6 M6 X6 R6 O6 hq
        go_wp2
        have hmP : Mod (fun b => b = P) (w7) ((w7).setCell ⟨P, 0, none⟩ (.int .i64 v)) := by
          refine msetZ (F := fun b => b = P) ?_ _ _ rfl
          exact Mod.refl _ _
        have hmR := set6_mod ((w7).setCell ⟨P, 0, none⟩ (.int .i64 v)) w.heap.size (.int .i64 v) (.int .i64 d.sh) (.int .i64 d.pr) (.int .i64 d.lb) (.int .i64 d.lv) (.slice p nd q)
        have Z := (R7.mod hmP (fun e => hPR e.symm)).set ⟨v, d.sh, d.pr, d.lb, d.lv, d.cast⟩ (.slice p nd q)
        have OZ := votsR.mod (votsR.mod O7 hmP (fun c hc e => by have e' : c = P := e; rw [e'] at hc; exact HnP.out hc)) hmR (fun c hc e => by have := HFb.out c hc; omega)
        have SZ := (h7.mod hmP (fun b e => by omega)).mod hmR (fun b e => by omega)
        have MZ := (M7.trans2 hmP (fun b e hb => by omega)).trans2 hmR (fun b e hb => by omega)
        obtain ⟨wz, hwz⟩ : ∃ wz, wz = (((((((w7).setCell ⟨P, 0, none⟩ (.int .i64 v)).setCell ⟨w.heap.size, 0, none⟩ (.int .i64 v)).setCell ⟨w.heap.size, 1, none⟩ (.int .i64 d.sh)).setCell ⟨w.heap.size, 2, none⟩ (.int .i64 d.pr)).setCell ⟨w.heap.size, 3, none⟩ (.int .i64 d.lb)).setCell ⟨w.heap.size, 4, none⟩ (.int .i64 d.lv)).setCell ⟨w.heap.size, 5, none⟩ (.slice p nd q) := ⟨_, rfl⟩
        rw [← hwz] at Z OZ SZ MZ ⊢
        clear hwz
        obtain ⟨z0, z1, z2, z3, z4, z5, zf, zl⟩ := Z
        refine bodyPost_ret (v := .agg #[.int .i64 v, .int .i64 d.sh, .int .i64 d.pr, .int .i64 d.lb, .int .i64 d.lv, .slice p nd q]) (by simp [results, Try.results12, go_sem, z0, z1, z2, z3, z4, z5]) rfl ?_
        refine ⟨.agg #[.int .i64 v, .int .i64 d.sh, .int .i64 d.pr, .int .i64 d.lb, .int .i64 d.lv, .slice p nd q], _, ⟨v, d.sh, d.pr, d.lb, d.lv, d.cast⟩, t1 + 1 + 1, rfl, ⟨_, _, rfl, votsR.base OZ (by omega), fun _ => Iff.rfl⟩, ?_, SZ, by omega, MZ⟩
        show d.cast.length ≤ 62; rw [HND.out]; omega
      have c0' : ¬ ((n6 : Int) = 0) := by omega
      by_cases c1 : n6 = 1
      · subst c1
        go_wp2_with fail
        refine (l1Pick_any B _ bs a k cap (t1 + 1) w6.heap.size 2 [-1, 3] (h6.below (by (repeat (first | exact Below.refl _ _ | assumption | refine Below.drew ?_ | refine balloc ?_ _ | refine bset ?_ (by simp; omega) _ | refine bset ?_ (by simp) _ | refine bstep ?_ (by assumption))))) (by omega) (by omega) (by simp) (by simp) ?_).mono ?_
        · intro i hi
          match i, hi with
          | 0, _ => simp [go_sem]
          | 1, _ => simp [go_sem]
        rintro e w7 ⟨v, rfl, hq, h7, m7⟩
        obtain ⟨x0, x1, x2, x3, x4, x5, xf, xl⟩ := (X6.below (balloc (Below.refl _ _) _)).mod m7 hPb
        have R7 := (R6.below (balloc (Below.refl _ _) _)).mod m7 hne
        obtain ⟨r0, r1, r2, r3, r4, r5, rf, rl⟩ := R7
        have R7 : Sl6 w7 w.heap.size zeroS (.slice none 0 0) := ⟨r0, r1, r2, r3, r4, r5, rf, rl⟩
        have O7 := votsR.mod (votsR.alloc O6 _) m7 (fun c hc e => by have := HFb.out c hc; omega)
        have M7 := (M6.transB (balloc (Below.refl _ _) _)).trans m7
        clear m7 h6 M6 X6 R6 O6 hq
        go_wp2
        have hmP : Mod (fun b => b = P) (w7) ((w7).setCell ⟨P, 1, none⟩ (.int .i64 v)) := by
          refine msetZ (F := fun b => b = P) ?_ _ _ rfl
          exact Mod.refl _ _
        have hmR := set6_mod ((w7).setCell ⟨P, 1, none⟩ (.int .i64 v)) w.heap.size (.int .i64 d.con) (.int .i64 v) (.int .i64 d.pr) (.int .i64 d.lb) (.int .i64 d.lv) (.slice p nd q)
        have Z := (R7.mod hmP (fun e => hPR e.symm)).set ⟨d.con, v, d.pr, d.lb, d.lv, d.cast⟩ (.slice p nd q)
        have OZ := votsR.mod (votsR.mod O7 hmP (fun c hc e => by have e' : c = P := e; rw [e'] at hc; exact HnP.out hc)) hmR (fun c hc e => by have := HFb.out c hc; omega)
        have SZ := (h7.mod hmP (fun b e => by omega)).mod hmR (fun b e => by omega)
        have MZ := (M7.trans2 hmP (fun b e hb => by omega)).trans2 hmR (fun b e hb => by omega)
        obtain ⟨wz, hwz⟩ : ∃ wz, wz = (((((((w7).setCell ⟨P, 1, none⟩ (.int .i64 v)).setCell ⟨w.heap.size, 0, none⟩ (.int .i64 d.con)).setCell ⟨w.heap.size, 1, none⟩ (.int .i64 v)).setCell ⟨w.heap.size, 2, none⟩ (.int .i64 d.pr)).setCell ⟨w.heap.size, 3, none⟩ (.int .i64 d.lb)).setCell ⟨w.heap.size, 4, none⟩ (.int .i64 d.lv)).setCell ⟨w.heap.size, 5, none⟩ (.slice p nd q) := ⟨_, rfl⟩
        rw [← hwz] at Z OZ SZ MZ ⊢
        clear hwz
        obtain ⟨z0, z1, z2, z3, z4, z5, zf, zl⟩ := Z
        refine bodyPost_ret (v := .agg #[.int .i64 d.con, .int .i64 v, .int .i64 d.pr, .int .i64 d.lb, .int .i64 d.lv, .slice p nd q]) (by simp [results, Try.results12, go_sem, z0, z1, z2, z3, z4, z5]) rfl ?_
        refine ⟨.agg #[.int .i64 d.con, .int .i64 v, .int .i64 d.pr, .int .i64 d.lb, .int .i64 d.lv, .slice p nd q], _, ⟨d.con, v, d.pr, d.lb, d.lv, d.cast⟩, t1 + 1 + 1, rfl, ⟨_, _, rfl, votsR.base OZ (by omega), fun _ => Iff.rfl⟩, ?_, SZ, by omega, MZ⟩
        show d.cast.length ≤ 62; rw [HND.out]; omega
      have c1' : ¬ ((n6 : Int) = 1) := by omega
      by_cases c2 : n6 = 2
      · subst c2
        go_wp2_with fail
        refine (l1Pick_any B _ bs a k cap (t1 + 1) w6.heap.size 4 [-2, -1, 1000, 1001] (h6.below (by (repeat (first | exact Below.refl _ _ | assumption | refine Below.drew ?_ | refine balloc ?_ _ | refine bset ?_ (by simp; omega) _ | refine bset ?_ (by simp) _ | refine bstep ?_ (by assumption))))) (by omega) (by omega) (by simp) (by simp) ?_).mono ?_
        · intro i hi
          match i, hi with
          | 0, _ => simp [go_sem]
          | 1, _ => simp [go_sem]
          | 2, _ => simp [go_sem]
          | 3, _ => simp [go_sem]
        rintro e w7 ⟨v, rfl, hq, h7, m7⟩
        obtain ⟨x0, x1, x2, x3, x4, x5, xf, xl⟩ := (X6.below (balloc (Below.refl _ _) _)).mod m7 hPb
        have R7 := (R6.below (balloc (Below.refl _ _) _)).mod m7 hne
        obtain ⟨r0, r1, r2, r3, r4, r5, rf, rl⟩ := R7
        have R7 : Sl6 w7 w.heap.size zeroS (.slice none 0 0) := ⟨r0, r1, r2, r3, r4, r5, rf, rl⟩
        have O7 := votsR.mod (votsR.alloc O6 _) m7 (fun c hc e => by have := HFb.out c hc; omega)
        have M7 := (M6.transB (balloc (Below.refl _ _) _)).trans m7
        clear m7 h6 M6 X6 R6 O6 hq
        go_wp2
        have hmP : Mod (fun b => b = P) (w7) ((w7).setCell ⟨P, 2, none⟩ (.int .i64 v)) := by
          refine msetZ (F := fun b => b = P) ?_ _ _ rfl
          exact Mod.refl _ _
        have hmR := set6_mod ((w7).setCell ⟨P, 2, none⟩ (.int .i64 v)) w.heap.size (.int .i64 d.con) (.int .i64 d.sh) (.int .i64 v) (.int .i64 d.lb) (.int .i64 d.lv) (.slice p nd q)
        have Z := (R7.mod hmP (fun e => hPR e.symm)).set ⟨d.con, d.sh, v, d.lb, d.lv, d.cast⟩ (.slice p nd q)
        have OZ := votsR.mod (votsR.mod O7 hmP (fun c hc e => by have e' : c = P := e; rw [e'] at hc; exact HnP.out hc)) hmR (fun c hc e => by have := HFb.out c hc; omega)
        have SZ := (h7.mod hmP (fun b e => by omega)).mod hmR (fun b e => by omega)
        have MZ := (M7.trans2 hmP (fun b e hb => by omega)).trans2 hmR (fun b e hb => by omega)
        obtain ⟨wz, hwz⟩ : ∃ wz, wz = (((((((w7).setCell ⟨P, 2, none⟩ (.int .i64 v)).setCell ⟨w.heap.size, 0, none⟩ (.int .i64 d.con)).setCell ⟨w.heap.size, 1, none⟩ (.int .i64 d.sh)).setCell ⟨w.heap.size, 2, none⟩ (.int .i64 v)).setCell ⟨w.heap.size, 3, none⟩ (.int .i64 d.lb)).setCell ⟨w.heap.size, 4, none⟩ (.int .i64 d.lv)).setCell ⟨w.heap.size, 5, none⟩ (.slice p nd q) := ⟨_, rfl⟩
        rw [← hwz] at Z OZ SZ MZ ⊢
        clear hwz
        obtain ⟨z0, z1, z2, z3, z4, z5, zf, zl⟩ := Z
        refine bodyPost_ret (v := .agg #[.int .i64 d.con, .int .i64 d.sh, .int .i64 v, .int .i64 d.lb, .int .i64 d.lv, .slice p nd q]) (by simp [results, Try.results12, go_sem, z0, z1, z2, z3, z4, z5]) rfl ?_
        refine ⟨.agg #[.int .i64 d.con, .int .i64 d.sh, .int .i64 v, .int .i64 d.lb, .int .i64 d.lv, .slice p nd q], _, ⟨d.con, d.sh, v, d.lb, d.lv, d.cast⟩, t1 + 1 + 1, rfl, ⟨_, _, rfl, votsR.base OZ (by omega), fun _ => Iff.rfl⟩, ?_, SZ, by omega, MZ⟩
        show d.cast.length ≤ 62; rw [HND.out]; omega
      have c2' : ¬ ((n6 : Int) = 2) := by omega
      by_cases c3 : n6 = 3
      · subst c3
        obtain ⟨x0, x1, x2, x3, x4, x5, xf, xl⟩ := X6
        obtain ⟨r0, r1, r2, r3, r4, r5, rf, rl⟩ := R6
        have R7 : Sl6 w6 w.heap.size zeroS (.slice none 0 0) := ⟨r0, r1, r2, r3, r4, r5, rf, rl⟩
        go_wp2
        have hmP : Mod (fun b => b = P) (w6) (((w6).setCell ⟨P, 3, none⟩ (.int .i64 3)).setCell ⟨P, 4, none⟩ (.int .i64 1)) := by
          refine msetZ (F := fun b => b = P) ?_ _ _ rfl
          refine msetZ (F := fun b => b = P) ?_ _ _ rfl
          exact Mod.refl _ _
        have hmR := set6_mod (((w6).setCell ⟨P, 3, none⟩ (.int .i64 3)).setCell ⟨P, 4, none⟩ (.int .i64 1)) w.heap.size (.int .i64 d.con) (.int .i64 d.sh) (.int .i64 d.pr) (.int .i64 3) (.int .i64 1) (.slice p nd q)
        have Z := (R7.mod hmP (fun e => hPR e.symm)).set ⟨d.con, d.sh, d.pr, 3, 1, d.cast⟩ (.slice p nd q)
        have OZ := votsR.mod (votsR.mod O6 hmP (fun c hc e => by have e' : c = P := e; rw [e'] at hc; exact HnP.out hc)) hmR (fun c hc e => by have := HFb.out c hc; omega)
        have SZ := (h6.mod hmP (fun b e => by omega)).mod hmR (fun b e => by omega)
        have MZ := (M6.trans2 hmP (fun b e hb => by omega)).trans2 hmR (fun b e hb => by omega)
        obtain ⟨wz, hwz⟩ : ∃ wz, wz = ((((((((w6).setCell ⟨P, 3, none⟩ (.int .i64 3)).setCell ⟨P, 4, none⟩ (.int .i64 1)).setCell ⟨w.heap.size, 0, none⟩ (.int .i64 d.con)).setCell ⟨w.heap.size, 1, none⟩ (.int .i64 d.sh)).setCell ⟨w.heap.size, 2, none⟩ (.int .i64 d.pr)).setCell ⟨w.heap.size, 3, none⟩ (.int .i64 3)).setCell ⟨w.heap.size, 4, none⟩ (.int .i64 1)).setCell ⟨w.heap.size, 5, none⟩ (.slice p nd q) := ⟨_, rfl⟩
        rw [← hwz] at Z OZ SZ MZ ⊢
        clear hwz
        obtain ⟨z0, z1, z2, z3, z4, z5, zf, zl⟩ := Z
        refine bodyPost_ret (v := .agg #[.int .i64 d.con, .int .i64 d.sh, .int .i64 d.pr, .int .i64 3, .int .i64 1, .slice p nd q]) (by simp [results, Try.results12, go_sem, z0, z1, z2, z3, z4, z5]) rfl ?_
        refine ⟨.agg #[.int .i64 d.con, .int .i64 d.sh, .int .i64 d.pr, .int .i64 3, .int .i64 1, .slice p nd q], _, ⟨d.con, d.sh, d.pr, 3, 1, d.cast⟩, t1 + 1, rfl, ⟨_, _, rfl, votsR.base OZ (by omega), fun _ => Iff.rfl⟩, ?_, SZ, by omega, MZ⟩
        show d.cast.length ≤ 62; rw [HND.out]; omega
      have c3' : ¬ ((n6 : Int) = 3) := by omega
      by_cases c4 : n6 = 4
      · subst c4
        obtain ⟨x0, x1, x2, x3, x4, x5, xf, xl⟩ := X6
        have Q0 : SlW w w6.drew (w.heap.size + 1) B bs a k cap (t1 + 1) P w.heap.size d p nd q F := SlW.below ⟨⟨x0, x1, x2, x3, x4, x5, xf, xl⟩, R6, O6, h6, M6⟩ (Below.drew (Below.refl _ _))
        clear R6 O6 h6 M6
        go_wp2
        refine wp_region_noPanic ?_
        refine region_upto (fun W => W.cell? ⟨P, 5, none⟩ = some (.slice p nd q)) 12 (by kernel_rfl) x5 (fun hS => ?_)
        refine upto_take (i := 0) (v := ?_) rfl (by kernel_rfl) (by kernel_rfl) (by kernel_rfl) (by kernel_rfl) (fun _ _ _ h => h) (by rfl) hS ?_ ?_
        rotate_left
        · intro wS hSw
          try dsimp only at hSw
          first | (go_simp; done) | (go_simp; with_reducible rfl)
        try simp only [Act.put, List.getElem_toArray, List.getElem_cons_zero, List.getElem_cons_succ, List.setIfInBounds_toArray, List.set_cons_zero, List.set_cons_succ]
        refine upto_take (i := 1) (v := ?_) rfl (by kernel_rfl) (by kernel_rfl) (by kernel_rfl) (by kernel_rfl) (fun _ _ _ h => h) (by rfl) hS ?_ ?_
        rotate_left
        · intro wS hSw
          try dsimp only at hSw
          first | (go_simp; done) | (go_simp; with_reducible rfl)
        try simp only [Act.put, List.getElem_toArray, List.getElem_cons_zero, List.getElem_cons_succ, List.setIfInBounds_toArray, List.set_cons_zero, List.set_cons_succ]
        refine upto_take (i := 2) (v := ?_) rfl (by kernel_rfl) (by kernel_rfl) (by kernel_rfl) (by kernel_rfl) (fun _ _ _ h => h) (by rfl) hS ?_ ?_
        rotate_left
        · intro wS hSw
          try dsimp only at hSw
          first | (go_simp; done) | (go_simp; with_reducible rfl)
        try simp only [Act.put, List.getElem_toArray, List.getElem_cons_zero, List.getElem_cons_succ, List.setIfInBounds_toArray, List.set_cons_zero, List.set_cons_succ]
        refine upto_take (i := 5) (v := ?_) rfl (by kernel_rfl) (by kernel_rfl) (by kernel_rfl) (by kernel_rfl) (fun _ _ _ h => h) (by rfl) hS ?_ ?_
        rotate_left
        · intro wS hSw
          try dsimp only at hSw
          first | (go_simp; done) | (go_simp; with_reducible rfl)
        try simp only [Act.put, List.getElem_toArray, List.getElem_cons_zero, List.getElem_cons_succ, List.setIfInBounds_toArray, List.set_cons_zero, List.set_cons_succ]
        obtain ⟨wd, hwd⟩ : ∃ x, x = w6.drew := ⟨_, rfl⟩
        rw [← hwd] at Q0 ⊢
        clear hwd hS x0 x1 x2 x3 x4 x5 xf xl
        refine upto_two (i := 3) (j := 6) (by kernel_rfl) rfl rfl ?_ ?_
        · intro K hK
          go_simp
          obtain ⟨wa, hwwa⟩ : ∃ x, x = (wd).alloc (.cells #[.int .i64 0, .int .i64 (-1), .int .i64 2000] 2) := ⟨_, rfl⟩
          obtain ⟨g3, hg3⟩ : ∃ x, x = (wd).heap.size := ⟨_, rfl⟩
          have hbwa : Below (wd).heap.size (wd) wa := by rw [hwwa]; exact balloc (Below.refl _ _) _
          have L3 : ∀ i, i < ([0, -1, 2000] : List Int).length → wa.cell? ⟨g3, i, none⟩ = some (.int .i64 (([0, -1, 2000] : List Int).getD i 0)) := by
            rw [hwwa, hg3]
            intro i hi
            match i, hi with
            | 0, _ => simp [go_sem]
            | 1, _ => simp [go_sem]
            | 2, _ => simp [go_sem]
          have hl3 : g3 < wa.heap.size := by rw [hwwa, hg3]; simp
          have hs3 : g3 ≠ bs := by have := Q0.S.lt; omega
          rw [← hwwa, ← hg3]
          have Qa := Q0.below hbwa
          clear hwwa hg3 hbwa Q0
          refine hK _ _ (fun _ => Qa.X.c5) ?_
          clear hK K
          try simp only [Act.put, List.getElem_toArray, List.getElem_cons_zero, List.getElem_cons_succ, List.setIfInBounds_toArray, List.set_cons_zero, List.set_cons_succ]
          refine upto_two (i := 4) (j := 6) (by kernel_rfl) rfl rfl ?_ ?_
          · intro K hK
            go_simp
            refine (l1Pick_any B _ bs a k cap (t1 + 1) g3 3 [0, -1, 2000] Qa.S (by omega) hs3 (by simp) (by simp) L3).mono ?_
            rintro e wb ⟨v4, rfl, hq, hwb, mwb⟩
            have Qb := Qa.next hwb mwb hPb hne (fun c hc e => by have := HFb.out c hc; omega)
            clear hq hwb mwb Qa L3
            refine hK _ _ (fun _ => Qb.X.c5) ?_
            clear hK K
            try simp only [Act.put, List.getElem_toArray, List.getElem_cons_zero, List.getElem_cons_succ, List.setIfInBounds_toArray, List.set_cons_zero, List.set_cons_succ]
            refine upto_step (i := 6) (by kernel_rfl) rfl ?_
            intro K hK
            go_simp
            obtain ⟨wc, hwwc⟩ : ∃ x, x = (wb).alloc (.cells #[.int .i64 1, .int .i64 2, .int .i64 0, .int .i64 3] 2) := ⟨_, rfl⟩
            obtain ⟨g6, hg6⟩ : ∃ x, x = (wb).heap.size := ⟨_, rfl⟩
            have hbwc : Below (wb).heap.size (wb) wc := by rw [hwwc]; exact balloc (Below.refl _ _) _
            have L6 : ∀ i, i < ([1, 2, 0, 3] : List Int).length → wc.cell? ⟨g6, i, none⟩ = some (.int .i64 (([1, 2, 0, 3] : List Int).getD i 0)) := by
              rw [hwwc, hg6]
              intro i hi
              match i, hi with
              | 0, _ => simp [go_sem]
              | 1, _ => simp [go_sem]
              | 2, _ => simp [go_sem]
              | 3, _ => simp [go_sem]
            have hl6 : g6 < wc.heap.size := by rw [hwwc, hg6]; simp
            have hs6 : g6 ≠ bs := by have := Qb.S.lt; omega
            rw [← hwwc, ← hg6]
            have Qc := Qb.below hbwc
            clear hwwc hg6 hbwc Qb
            refine hK _ _ (fun _ => Qc.X.c5) ?_
            clear hK K
            try simp only [Act.put, List.getElem_toArray, List.getElem_cons_zero, List.getElem_cons_succ, List.setIfInBounds_toArray, List.set_cons_zero, List.set_cons_succ]
            refine upto_step (i := 7) (by kernel_rfl) rfl ?_
            intro K hK
            go_simp
            refine (l1Pick_any B _ bs a k cap (t1 + 1 + 1) g6 4 [1, 2, 0, 3] Qc.S (by omega) hs6 (by simp) (by simp) L6).mono ?_
            rintro e we ⟨v7, rfl, hq, hwe, mwe⟩
            have Qe := Qc.next hwe mwe hPb hne (fun c hc e => by have := HFb.out c hc; omega)
            clear hq hwe mwe Qc L6
            refine hK _ _ (fun _ => Qe.X.c5) ?_
            clear hK K
            try simp only [Act.put, List.getElem_toArray, List.getElem_cons_zero, List.getElem_cons_succ, List.setIfInBounds_toArray, List.set_cons_zero, List.set_cons_succ]
            refine upto_take (i := 8) (v := ?_) rfl (by kernel_rfl) (by kernel_rfl) (by kernel_rfl) (by kernel_rfl) (fun _ _ _ h => h) (by rfl) Qe.X.c5 ?_ ?_
            rotate_left
            · intro wS hSw
              try dsimp only at hSw
              first | (go_simp; done) | (go_simp; with_reducible rfl)
            try simp only [Act.put, List.getElem_toArray, List.getElem_cons_zero, List.getElem_cons_succ, List.setIfInBounds_toArray, List.set_cons_zero, List.set_cons_succ]
            refine upto_step (i := 9) (by kernel_rfl) rfl ?_
            intro K hK
            go_simp
            obtain ⟨wv, hwv⟩ : ∃ x, x = (we).alloc (.cells #[.int .i64 v4, .int .i64 v7] 25) := ⟨_, rfl⟩
            have hbv : Below (we).heap.size (we) wv := by rw [hwv]; exact balloc (Below.refl _ _) _
            have e0 : wv.cell? ⟨(we).heap.size, 0, none⟩ = some (.int .i64 v4) := by rw [hwv]; simp [go_sem]
            have e1 : wv.cell? ⟨(we).heap.size, 1, none⟩ = some (.int .i64 v7) := by rw [hwv]; simp [go_sem]
            rw [← hwv]
            have Qv := Qe.below hbv
            clear hwv hbv Qe
            refine hK _ _ (fun _ => Qv.X.c5) ?_
            clear hK K
            try simp only [Act.put, List.getElem_toArray, List.getElem_cons_zero, List.getElem_cons_succ, List.setIfInBounds_toArray, List.set_cons_zero, List.set_cons_succ]
            refine upto_step (i := 10) (by kernel_rfl) rfl ?_
            intro K hK
            have hav := appAny_vot (l := ⟨v4, v7⟩) (c := 1) e0 e1
            refine step_appW wv rfl _ _ rfl (w.heap.size + 1) _ F d.cast rfl _ [⟨v4, v7⟩] rfl Qv.O hav ?c1 ?c2 ?_
            case c1 => rw [HND.out]; simp; omega
            case c2 => have := Qv.X.lt; omega
            intro v9 w9 o9 m9 hb9
            obtain ⟨av, cv, rfl⟩ := vots_form (votsR.ofO o9)
            have hl9 : (d.cast ++ [(⟨v4, v7⟩ : Vot)]).length = nd + 1 := by rw [List.length_append, HND.out]; rfl
            have HL9 : Hid ((d.cast ++ [(⟨v4, v7⟩ : Vot)]).length = nd + 1) := hl9
            have hP9 : ∀ b, (Value.slice av (d.cast ++ [(⟨v4, v7⟩ : Vot)]).length cv).ownBlock = some b → b ≠ P := fun b hb e => by
              subst e
              rcases hb9 b hb with h | h
              · exact HnP.out h
              · have := Qv.X.lt; omega
            rw [hl9] at hP9
            have X9 := Qv.X.mod m9 HnP.out
            have R9 := Qv.R.mod m9 (fun e => by have := (HFb.out _ e).1; omega)
            have S9 := Qv.S.mod m9 (fun b e => by have := (HFb.out b e).1; omega)
            have M9 := Qv.M.trans2 m9 (fun b e hb => by have := (HFb.out b e).1; omega)
            have O9 : ∃ G, votsR.O w9 (w.heap.size + 1) G (.slice av (nd + 1) cv) (d.cast ++ [⟨v4, v7⟩]) ∧ ∀ b, G b → (Value.slice av (nd + 1) cv).ownBlock = some b := ⟨_, by rw [hl9] at o9; exact o9, fun b h => h⟩
            obtain ⟨G, O9, hG9⟩ := O9
            rw [hl9]
            clear o9 hb9 hl9 Qv m9 hav e0 e1
            have HnP : Hid (¬ G P) := fun e => hP9 P (hG9 P e) rfl
            have HFc : Hid (∀ c, G c → w.heap.size + 1 ≤ c) := fun c hc => (votsR.rng O9 c hc).1
            clear hP9 hG9
            obtain ⟨x0, x1, x2, x3, x4, x5, xf, xl⟩ := X9
            have x5' : (fun W => W.cell? ⟨P, 5, none⟩ = some (.slice p nd q)) w9 := x5
            obtain ⟨r0, r1, r2, r3, r4, r5, rf, rl⟩ := R9
            have R7 : Sl6 w9 w.heap.size zeroS (.slice none 0 0) := ⟨r0, r1, r2, r3, r4, r5, rf, rl⟩
            refine hK _ _ (fun _ => x5') ?_
            clear hK K
            try simp only [Act.put, List.getElem_toArray, List.getElem_cons_zero, List.getElem_cons_succ, List.setIfInBounds_toArray, List.set_cons_zero, List.set_cons_succ]
            refine upto_take (i := 11) (v := ?_) rfl (by kernel_rfl) (by kernel_rfl) (by kernel_rfl) (by kernel_rfl) (fun _ _ _ h => h) (by rfl) x5' ?_ ?_
            rotate_left
            · intro wS hSw
              try dsimp only at hSw
              first | (go_simp; done) | (go_simp; with_reducible rfl)
            try simp only [Act.put, List.getElem_toArray, List.getElem_cons_zero, List.getElem_cons_succ, List.setIfInBounds_toArray, List.set_cons_zero, List.set_cons_succ]
            refine upto_step (i := 12) (by kernel_rfl) rfl ?_
            intro K hK
            go_simp
            refine hK _ _ (fun h => absurd rfl h) ?_
            clear hK K
            refine upto_done (by kernel_rfl) ?_
            refine NoPanic.normal ?_
            go_wp2
            have hmP : Mod (fun b => b = P) (w9) ((w9).setCell ⟨P, 5, none⟩ (.slice av (nd + 1) cv)) := by
              refine msetZ (F := fun b => b = P) ?_ _ _ rfl
              exact Mod.refl _ _
            have hmR := set6_mod ((w9).setCell ⟨P, 5, none⟩ (.slice av (nd + 1) cv)) w.heap.size (.int .i64 d.con) (.int .i64 d.sh) (.int .i64 d.pr) (.int .i64 d.lb) (.int .i64 d.lv) (.slice av (nd + 1) cv)
            have Z := (R7.mod hmP (fun e => hPR e.symm)).set ⟨d.con, d.sh, d.pr, d.lb, d.lv, d.cast ++ [⟨v4, v7⟩]⟩ (.slice av (nd + 1) cv)
            have OZ := votsR.mod (votsR.mod O9 hmP (fun c hc e => by have e' : c = P := e; rw [e'] at hc; exact HnP.out hc)) hmR (fun c hc e => by have := HFc.out c hc; omega)
            have SZ := (S9.mod hmP (fun b e => by omega)).mod hmR (fun b e => by omega)
            have MZ := (M9.trans2 hmP (fun b e hb => by omega)).trans2 hmR (fun b e hb => by omega)
            obtain ⟨wz, hwz⟩ : ∃ wz, wz = (((((((w9).setCell ⟨P, 5, none⟩ (.slice av (nd + 1) cv)).setCell ⟨w.heap.size, 0, none⟩ (.int .i64 d.con)).setCell ⟨w.heap.size, 1, none⟩ (.int .i64 d.sh)).setCell ⟨w.heap.size, 2, none⟩ (.int .i64 d.pr)).setCell ⟨w.heap.size, 3, none⟩ (.int .i64 d.lb)).setCell ⟨w.heap.size, 4, none⟩ (.int .i64 d.lv)).setCell ⟨w.heap.size, 5, none⟩ (.slice av (nd + 1) cv) := ⟨_, rfl⟩
            rw [← hwz] at Z OZ SZ MZ ⊢
            clear hwz
            obtain ⟨z0, z1, z2, z3, z4, z5, zf, zl⟩ := Z
            refine bodyPost_ret (v := .agg #[.int .i64 d.con, .int .i64 d.sh, .int .i64 d.pr, .int .i64 d.lb, .int .i64 d.lv, .slice av (nd + 1) cv]) (by simp [results, Try.results12, go_sem, z0, z1, z2, z3, z4, z5]) rfl ?_
            refine ⟨.agg #[.int .i64 d.con, .int .i64 d.sh, .int .i64 d.pr, .int .i64 d.lb, .int .i64 d.lv, .slice av (nd + 1) cv], _, ⟨d.con, d.sh, d.pr, d.lb, d.lv, d.cast ++ [⟨v4, v7⟩]⟩, t1 + 1 + 1 + 1, rfl, ⟨_, _, rfl, votsR.base OZ (by omega), fun _ => Iff.rfl⟩, ?_, SZ, by omega, MZ⟩
            show (d.cast ++ [(⟨v4, v7⟩ : Vot)]).length ≤ 62; rw [HL9.out]; omega
          · intro K hK
            go_simp
            obtain ⟨wb, hwwb⟩ : ∃ x, x = (wa).alloc (.cells #[.int .i64 1, .int .i64 2, .int .i64 0, .int .i64 3] 2) := ⟨_, rfl⟩
            obtain ⟨g6, hg6⟩ : ∃ x, x = (wa).heap.size := ⟨_, rfl⟩
            have hbwb : Below (wa).heap.size (wa) wb := by rw [hwwb]; exact balloc (Below.refl _ _) _
            have L6 : ∀ i, i < ([1, 2, 0, 3] : List Int).length → wb.cell? ⟨g6, i, none⟩ = some (.int .i64 (([1, 2, 0, 3] : List Int).getD i 0)) := by
              rw [hwwb, hg6]
              intro i hi
              match i, hi with
              | 0, _ => simp [go_sem]
              | 1, _ => simp [go_sem]
              | 2, _ => simp [go_sem]
              | 3, _ => simp [go_sem]
            have hl6 : g6 < wb.heap.size := by rw [hwwb, hg6]; simp
            have hs6 : g6 ≠ bs := by have := Qa.S.lt; omega
            rw [← hwwb, ← hg6]
            have L3' : ∀ i, i < ([0, -1, 2000] : List Int).length → wb.cell? ⟨g3, i, none⟩ = some (.int .i64 (([0, -1, 2000] : List Int).getD i 0)) := getInts L3 hbwb
            replace L3 := L3'
            have Qb := Qa.below hbwb
            clear hwwb hg6 hbwb Qa
            refine hK _ _ (fun _ => Qb.X.c5) ?_
            clear hK K
            try simp only [Act.put, List.getElem_toArray, List.getElem_cons_zero, List.getElem_cons_succ, List.setIfInBounds_toArray, List.set_cons_zero, List.set_cons_succ]
            refine upto_step (i := 4) (by kernel_rfl) rfl ?_
            intro K hK
            go_simp
            refine (l1Pick_any B _ bs a k cap (t1 + 1) g3 3 [0, -1, 2000] Qb.S (by omega) hs3 (by simp) (by simp) L3).mono ?_
            rintro e wc ⟨v4, rfl, hq, hwc, mwc⟩
            have L6' : ∀ i, i < ([1, 2, 0, 3] : List Int).length → wc.cell? ⟨g6, i, none⟩ = some (.int .i64 (([1, 2, 0, 3] : List Int).getD i 0)) := fun i hi => mwc.cell (L6 i hi) hs6
            replace L6 := L6'
            have Qc := Qb.next hwc mwc hPb hne (fun c hc e => by have := HFb.out c hc; omega)
            clear hq hwc mwc Qb L3
            refine hK _ _ (fun _ => Qc.X.c5) ?_
            clear hK K
            try simp only [Act.put, List.getElem_toArray, List.getElem_cons_zero, List.getElem_cons_succ, List.setIfInBounds_toArray, List.set_cons_zero, List.set_cons_succ]
            refine upto_step (i := 7) (by kernel_rfl) rfl ?_
            intro K hK
            go_simp
            refine (l1Pick_any B _ bs a k cap (t1 + 1 + 1) g6 4 [1, 2, 0, 3] Qc.S (by omega) hs6 (by simp) (by simp) L6).mono ?_
            rintro e we ⟨v7, rfl, hq, hwe, mwe⟩
            have Qe := Qc.next hwe mwe hPb hne (fun c hc e => by have := HFb.out c hc; omega)
            clear hq hwe mwe Qc L6
            refine hK _ _ (fun _ => Qe.X.c5) ?_
            clear hK K
            try simp only [Act.put, List.getElem_toArray, List.getElem_cons_zero, List.getElem_cons_succ, List.setIfInBounds_toArray, List.set_cons_zero, List.set_cons_succ]
            refine upto_take (i := 8) (v := ?_) rfl (by kernel_rfl) (by kernel_rfl) (by kernel_rfl) (by kernel_rfl) (fun _ _ _ h => h) (by rfl) Qe.X.c5 ?_ ?_
            rotate_left
            · intro wS hSw
              try dsimp only at hSw
              first | (go_simp; done) | (go_simp; with_reducible rfl)
            try simp only [Act.put, List.getElem_toArray, List.getElem_cons_zero, List.getElem_cons_succ, List.setIfInBounds_toArray, List.set_cons_zero, List.set_cons_succ]
            refine upto_step (i := 9) (by kernel_rfl) rfl ?_
            intro K hK
            go_simp
            obtain ⟨wv, hwv⟩ : ∃ x, x = (we).alloc (.cells #[.int .i64 v4, .int .i64 v7] 25) := ⟨_, rfl⟩
            have hbv : Below (we).heap.size (we) wv := by rw [hwv]; exact balloc (Below.refl _ _) _
            have e0 : wv.cell? ⟨(we).heap.size, 0, none⟩ = some (.int .i64 v4) := by rw [hwv]; simp [go_sem]
            have e1 : wv.cell? ⟨(we).heap.size, 1, none⟩ = some (.int .i64 v7) := by rw [hwv]; simp [go_sem]
            rw [← hwv]
            have Qv := Qe.below hbv
            clear hwv hbv Qe
            refine hK _ _ (fun _ => Qv.X.c5) ?_
            clear hK K
            try simp only [Act.put, List.getElem_toArray, List.getElem_cons_zero, List.getElem_cons_succ, List.setIfInBounds_toArray, List.set_cons_zero, List.set_cons_succ]
            refine upto_step (i := 10) (by kernel_rfl) rfl ?_
            intro K hK
            have hav := appAny_vot (l := ⟨v4, v7⟩) (c := 1) e0 e1
            refine step_appW wv rfl _ _ rfl (w.heap.size + 1) _ F d.cast rfl _ [⟨v4, v7⟩] rfl Qv.O hav ?c1 ?c2 ?_
            case c1 => rw [HND.out]; simp; omega
            case c2 => have := Qv.X.lt; omega
            intro v9 w9 o9 m9 hb9
            obtain ⟨av, cv, rfl⟩ := vots_form (votsR.ofO o9)
            have hl9 : (d.cast ++ [(⟨v4, v7⟩ : Vot)]).length = nd + 1 := by rw [List.length_append, HND.out]; rfl
            have HL9 : Hid ((d.cast ++ [(⟨v4, v7⟩ : Vot)]).length = nd + 1) := hl9
            have hP9 : ∀ b, (Value.slice av (d.cast ++ [(⟨v4, v7⟩ : Vot)]).length cv).ownBlock = some b → b ≠ P := fun b hb e => by
              subst e
              rcases hb9 b hb with h | h
              · exact HnP.out h
              · have := Qv.X.lt; omega
            rw [hl9] at hP9
            have X9 := Qv.X.mod m9 HnP.out
            have R9 := Qv.R.mod m9 (fun e => by have := (HFb.out _ e).1; omega)
            have S9 := Qv.S.mod m9 (fun b e => by have := (HFb.out b e).1; omega)
            have M9 := Qv.M.trans2 m9 (fun b e hb => by have := (HFb.out b e).1; omega)
            have O9 : ∃ G, votsR.O w9 (w.heap.size + 1) G (.slice av (nd + 1) cv) (d.cast ++ [⟨v4, v7⟩]) ∧ ∀ b, G b → (Value.slice av (nd + 1) cv).ownBlock = some b := ⟨_, by rw [hl9] at o9; exact o9, fun b h => h⟩
            obtain ⟨G, O9, hG9⟩ := O9
            rw [hl9]
            clear o9 hb9 hl9 Qv m9 hav e0 e1
            have HnP : Hid (¬ G P) := fun e => hP9 P (hG9 P e) rfl
            have HFc : Hid (∀ c, G c → w.heap.size + 1 ≤ c) := fun c hc => (votsR.rng O9 c hc).1
            clear hP9 hG9
            obtain ⟨x0, x1, x2, x3, x4, x5, xf, xl⟩ := X9
            have x5' : (fun W => W.cell? ⟨P, 5, none⟩ = some (.slice p nd q)) w9 := x5
            obtain ⟨r0, r1, r2, r3, r4, r5, rf, rl⟩ := R9
            have R7 : Sl6 w9 w.heap.size zeroS (.slice none 0 0) := ⟨r0, r1, r2, r3, r4, r5, rf, rl⟩
            refine hK _ _ (fun _ => x5') ?_
            clear hK K
            try simp only [Act.put, List.getElem_toArray, List.getElem_cons_zero, List.getElem_cons_succ, List.setIfInBounds_toArray, List.set_cons_zero, List.set_cons_succ]
            refine upto_take (i := 11) (v := ?_) rfl (by kernel_rfl) (by kernel_rfl) (by kernel_rfl) (by kernel_rfl) (fun _ _ _ h => h) (by rfl) x5' ?_ ?_
            rotate_left
            · intro wS hSw
              try dsimp only at hSw
              first | (go_simp; done) | (go_simp; with_reducible rfl)
            try simp only [Act.put, List.getElem_toArray, List.getElem_cons_zero, List.getElem_cons_succ, List.setIfInBounds_toArray, List.set_cons_zero, List.set_cons_succ]
            refine upto_step (i := 12) (by kernel_rfl) rfl ?_
            intro K hK
            go_simp
            refine hK _ _ (fun h => absurd rfl h) ?_
            clear hK K
            refine upto_done (by kernel_rfl) ?_
            refine NoPanic.normal ?_
            go_wp2
            have hmP : Mod (fun b => b = P) (w9) ((w9).setCell ⟨P, 5, none⟩ (.slice av (nd + 1) cv)) := by
              refine msetZ (F := fun b => b = P) ?_ _ _ rfl
              exact Mod.refl _ _
            have hmR := set6_mod ((w9).setCell ⟨P, 5, none⟩ (.slice av (nd + 1) cv)) w.heap.size (.int .i64 d.con) (.int .i64 d.sh) (.int .i64 d.pr) (.int .i64 d.lb) (.int .i64 d.lv) (.slice av (nd + 1) cv)
            have Z := (R7.mod hmP (fun e => hPR e.symm)).set ⟨d.con, d.sh, d.pr, d.lb, d.lv, d.cast ++ [⟨v4, v7⟩]⟩ (.slice av (nd + 1) cv)
            have OZ := votsR.mod (votsR.mod O9 hmP (fun c hc e => by have e' : c = P := e; rw [e'] at hc; exact HnP.out hc)) hmR (fun c hc e => by have := HFc.out c hc; omega)
            have SZ := (S9.mod hmP (fun b e => by omega)).mod hmR (fun b e => by omega)
            have MZ := (M9.trans2 hmP (fun b e hb => by omega)).trans2 hmR (fun b e hb => by omega)
            obtain ⟨wz, hwz⟩ : ∃ wz, wz = (((((((w9).setCell ⟨P, 5, none⟩ (.slice av (nd + 1) cv)).setCell ⟨w.heap.size, 0, none⟩ (.int .i64 d.con)).setCell ⟨w.heap.size, 1, none⟩ (.int .i64 d.sh)).setCell ⟨w.heap.size, 2, none⟩ (.int .i64 d.pr)).setCell ⟨w.heap.size, 3, none⟩ (.int .i64 d.lb)).setCell ⟨w.heap.size, 4, none⟩ (.int .i64 d.lv)).setCell ⟨w.heap.size, 5, none⟩ (.slice av (nd + 1) cv) := ⟨_, rfl⟩
            rw [← hwz] at Z OZ SZ MZ ⊢
            clear hwz
            obtain ⟨z0, z1, z2, z3, z4, z5, zf, zl⟩ := Z
            refine bodyPost_ret (v := .agg #[.int .i64 d.con, .int .i64 d.sh, .int .i64 d.pr, .int .i64 d.lb, .int .i64 d.lv, .slice av (nd + 1) cv]) (by simp [results, Try.results12, go_sem, z0, z1, z2, z3, z4, z5]) rfl ?_
            refine ⟨.agg #[.int .i64 d.con, .int .i64 d.sh, .int .i64 d.pr, .int .i64 d.lb, .int .i64 d.lv, .slice av (nd + 1) cv], _, ⟨d.con, d.sh, d.pr, d.lb, d.lv, d.cast ++ [⟨v4, v7⟩]⟩, t1 + 1 + 1 + 1, rfl, ⟨_, _, rfl, votsR.base OZ (by omega), fun _ => Iff.rfl⟩, ?_, SZ, by omega, MZ⟩
            show (d.cast ++ [(⟨v4, v7⟩ : Vot)]).length ≤ 62; rw [HL9.out]; omega
        · intro K hK
          go_simp
          obtain ⟨wa, hwwa⟩ : ∃ x, x = (wd).alloc (.cells #[.int .i64 1, .int .i64 2, .int .i64 0, .int .i64 3] 2) := ⟨_, rfl⟩
          obtain ⟨g6, hg6⟩ : ∃ x, x = (wd).heap.size := ⟨_, rfl⟩
          have hbwa : Below (wd).heap.size (wd) wa := by rw [hwwa]; exact balloc (Below.refl _ _) _
          have L6 : ∀ i, i < ([1, 2, 0, 3] : List Int).length → wa.cell? ⟨g6, i, none⟩ = some (.int .i64 (([1, 2, 0, 3] : List Int).getD i 0)) := by
            rw [hwwa, hg6]
            intro i hi
            match i, hi with
            | 0, _ => simp [go_sem]
            | 1, _ => simp [go_sem]
            | 2, _ => simp [go_sem]
            | 3, _ => simp [go_sem]
          have hl6 : g6 < wa.heap.size := by rw [hwwa, hg6]; simp
          have hs6 : g6 ≠ bs := by have := Q0.S.lt; omega
          rw [← hwwa, ← hg6]
          have Qa := Q0.below hbwa
          clear hwwa hg6 hbwa Q0
          refine hK _ _ (fun _ => Qa.X.c5) ?_
          clear hK K
          try simp only [Act.put, List.getElem_toArray, List.getElem_cons_zero, List.getElem_cons_succ, List.setIfInBounds_toArray, List.set_cons_zero, List.set_cons_succ]
          refine upto_step (i := 3) (by kernel_rfl) rfl ?_
          intro K hK
          go_simp
          obtain ⟨wb, hwwb⟩ : ∃ x, x = (wa).alloc (.cells #[.int .i64 0, .int .i64 (-1), .int .i64 2000] 2) := ⟨_, rfl⟩
          obtain ⟨g3, hg3⟩ : ∃ x, x = (wa).heap.size := ⟨_, rfl⟩
          have hbwb : Below (wa).heap.size (wa) wb := by rw [hwwb]; exact balloc (Below.refl _ _) _
          have L3 : ∀ i, i < ([0, -1, 2000] : List Int).length → wb.cell? ⟨g3, i, none⟩ = some (.int .i64 (([0, -1, 2000] : List Int).getD i 0)) := by
            rw [hwwb, hg3]
            intro i hi
            match i, hi with
            | 0, _ => simp [go_sem]
            | 1, _ => simp [go_sem]
            | 2, _ => simp [go_sem]
          have hl3 : g3 < wb.heap.size := by rw [hwwb, hg3]; simp
          have hs3 : g3 ≠ bs := by have := Qa.S.lt; omega
          rw [← hwwb, ← hg3]
          have L6' : ∀ i, i < ([1, 2, 0, 3] : List Int).length → wb.cell? ⟨g6, i, none⟩ = some (.int .i64 (([1, 2, 0, 3] : List Int).getD i 0)) := getInts L6 hbwb
          replace L6 := L6'
          have Qb := Qa.below hbwb
          clear hwwb hg3 hbwb Qa
          refine hK _ _ (fun _ => Qb.X.c5) ?_
          clear hK K
          try simp only [Act.put, List.getElem_toArray, List.getElem_cons_zero, List.getElem_cons_succ, List.setIfInBounds_toArray, List.set_cons_zero, List.set_cons_succ]
          refine upto_step (i := 4) (by kernel_rfl) rfl ?_
          intro K hK
          go_simp
          refine (l1Pick_any B _ bs a k cap (t1 + 1) g3 3 [0, -1, 2000] Qb.S (by omega) hs3 (by simp) (by simp) L3).mono ?_
          rintro e wc ⟨v4, rfl, hq, hwc, mwc⟩
          have L6' : ∀ i, i < ([1, 2, 0, 3] : List Int).length → wc.cell? ⟨g6, i, none⟩ = some (.int .i64 (([1, 2, 0, 3] : List Int).getD i 0)) := fun i hi => mwc.cell (L6 i hi) hs6
          replace L6 := L6'
          have Qc := Qb.next hwc mwc hPb hne (fun c hc e => by have := HFb.out c hc; omega)
          clear hq hwc mwc Qb L3
          refine hK _ _ (fun _ => Qc.X.c5) ?_
          clear hK K
          try simp only [Act.put, List.getElem_toArray, List.getElem_cons_zero, List.getElem_cons_succ, List.setIfInBounds_toArray, List.set_cons_zero, List.set_cons_succ]
          refine upto_step (i := 7) (by kernel_rfl) rfl ?_
          intro K hK
          go_simp
          refine (l1Pick_any B _ bs a k cap (t1 + 1 + 1) g6 4 [1, 2, 0, 3] Qc.S (by omega) hs6 (by simp) (by simp) L6).mono ?_
          rintro e we ⟨v7, rfl, hq, hwe, mwe⟩
          have Qe := Qc.next hwe mwe hPb hne (fun c hc e => by have := HFb.out c hc; omega)
          clear hq hwe mwe Qc L6
          refine hK _ _ (fun _ => Qe.X.c5) ?_
          clear hK K
          try simp only [Act.put, List.getElem_toArray, List.getElem_cons_zero, List.getElem_cons_succ, List.setIfInBounds_toArray, List.set_cons_zero, List.set_cons_succ]
          refine upto_take (i := 8) (v := ?_) rfl (by kernel_rfl) (by kernel_rfl) (by kernel_rfl) (by kernel_rfl) (fun _ _ _ h => h) (by rfl) Qe.X.c5 ?_ ?_
          rotate_left
          · intro wS hSw
            try dsimp only at hSw
            first | (go_simp; done) | (go_simp; with_reducible rfl)
          try simp only [Act.put, List.getElem_toArray, List.getElem_cons_zero, List.getElem_cons_succ, List.setIfInBounds_toArray, List.set_cons_zero, List.set_cons_succ]
          refine upto_step (i := 9) (by kernel_rfl) rfl ?_
          intro K hK
          go_simp
          obtain ⟨wv, hwv⟩ : ∃ x, x = (we).alloc (.cells #[.int .i64 v4, .int .i64 v7] 25) := ⟨_, rfl⟩
          have hbv : Below (we).heap.size (we) wv := by rw [hwv]; exact balloc (Below.refl _ _) _
          have e0 : wv.cell? ⟨(we).heap.size, 0, none⟩ = some (.int .i64 v4) := by rw [hwv]; simp [go_sem]
          have e1 : wv.cell? ⟨(we).heap.size, 1, none⟩ = some (.int .i64 v7) := by rw [hwv]; simp [go_sem]
          rw [← hwv]
          have Qv := Qe.below hbv
          clear hwv hbv Qe
          refine hK _ _ (fun _ => Qv.X.c5) ?_
          clear hK K
          try simp only [Act.put, List.getElem_toArray, List.getElem_cons_zero, List.getElem_cons_succ, List.setIfInBounds_toArray, List.set_cons_zero, List.set_cons_succ]
          refine upto_step (i := 10) (by kernel_rfl) rfl ?_
          intro K hK
          have hav := appAny_vot (l := ⟨v4, v7⟩) (c := 1) e0 e1
          refine step_appW wv rfl _ _ rfl (w.heap.size + 1) _ F d.cast rfl _ [⟨v4, v7⟩] rfl Qv.O hav ?c1 ?c2 ?_
          case c1 => rw [HND.out]; simp; omega
          case c2 => have := Qv.X.lt; omega
          intro v9 w9 o9 m9 hb9
          obtain ⟨av, cv, rfl⟩ := vots_form (votsR.ofO o9)
          have hl9 : (d.cast ++ [(⟨v4, v7⟩ : Vot)]).length = nd + 1 := by rw [List.length_append, HND.out]; rfl
          have HL9 : Hid ((d.cast ++ [(⟨v4, v7⟩ : Vot)]).length = nd + 1) := hl9
          have hP9 : ∀ b, (Value.slice av (d.cast ++ [(⟨v4, v7⟩ : Vot)]).length cv).ownBlock = some b → b ≠ P := fun b hb e => by
            subst e
            rcases hb9 b hb with h | h
            · exact HnP.out h
            · have := Qv.X.lt; omega
          rw [hl9] at hP9
          have X9 := Qv.X.mod m9 HnP.out
          have R9 := Qv.R.mod m9 (fun e => by have := (HFb.out _ e).1; omega)
          have S9 := Qv.S.mod m9 (fun b e => by have := (HFb.out b e).1; omega)
          have M9 := Qv.M.trans2 m9 (fun b e hb => by have := (HFb.out b e).1; omega)
          have O9 : ∃ G, votsR.O w9 (w.heap.size + 1) G (.slice av (nd + 1) cv) (d.cast ++ [⟨v4, v7⟩]) ∧ ∀ b, G b → (Value.slice av (nd + 1) cv).ownBlock = some b := ⟨_, by rw [hl9] at o9; exact o9, fun b h => h⟩
          obtain ⟨G, O9, hG9⟩ := O9
          rw [hl9]
          clear o9 hb9 hl9 Qv m9 hav e0 e1
          have HnP : Hid (¬ G P) := fun e => hP9 P (hG9 P e) rfl
          have HFc : Hid (∀ c, G c → w.heap.size + 1 ≤ c) := fun c hc => (votsR.rng O9 c hc).1
          clear hP9 hG9
          obtain ⟨x0, x1, x2, x3, x4, x5, xf, xl⟩ := X9
          have x5' : (fun W => W.cell? ⟨P, 5, none⟩ = some (.slice p nd q)) w9 := x5
          obtain ⟨r0, r1, r2, r3, r4, r5, rf, rl⟩ := R9
          have R7 : Sl6 w9 w.heap.size zeroS (.slice none 0 0) := ⟨r0, r1, r2, r3, r4, r5, rf, rl⟩
          refine hK _ _ (fun _ => x5') ?_
          clear hK K
          try simp only [Act.put, List.getElem_toArray, List.getElem_cons_zero, List.getElem_cons_succ, List.setIfInBounds_toArray, List.set_cons_zero, List.set_cons_succ]
          refine upto_take (i := 11) (v := ?_) rfl (by kernel_rfl) (by kernel_rfl) (by kernel_rfl) (by kernel_rfl) (fun _ _ _ h => h) (by rfl) x5' ?_ ?_
          rotate_left
          · intro wS hSw
            try dsimp only at hSw
            first | (go_simp; done) | (go_simp; with_reducible rfl)
          try simp only [Act.put, List.getElem_toArray, List.getElem_cons_zero, List.getElem_cons_succ, List.setIfInBounds_toArray, List.set_cons_zero, List.set_cons_succ]
          refine upto_step (i := 12) (by kernel_rfl) rfl ?_
          intro K hK
          go_simp
          refine hK _ _ (fun h => absurd rfl h) ?_
          clear hK K
          refine upto_done (by kernel_rfl) ?_
          refine NoPanic.normal ?_
          go_wp2
          have hmP : Mod (fun b => b = P) (w9) ((w9).setCell ⟨P, 5, none⟩ (.slice av (nd + 1) cv)) := by
            refine msetZ (F := fun b => b = P) ?_ _ _ rfl
            exact Mod.refl _ _
          have hmR := set6_mod ((w9).setCell ⟨P, 5, none⟩ (.slice av (nd + 1) cv)) w.heap.size (.int .i64 d.con) (.int .i64 d.sh) (.int .i64 d.pr) (.int .i64 d.lb) (.int .i64 d.lv) (.slice av (nd + 1) cv)
          have Z := (R7.mod hmP (fun e => hPR e.symm)).set ⟨d.con, d.sh, d.pr, d.lb, d.lv, d.cast ++ [⟨v4, v7⟩]⟩ (.slice av (nd + 1) cv)
          have OZ := votsR.mod (votsR.mod O9 hmP (fun c hc e => by have e' : c = P := e; rw [e'] at hc; exact HnP.out hc)) hmR (fun c hc e => by have := HFc.out c hc; omega)
          have SZ := (S9.mod hmP (fun b e => by omega)).mod hmR (fun b e => by omega)
          have MZ := (M9.trans2 hmP (fun b e hb => by omega)).trans2 hmR (fun b e hb => by omega)
          obtain ⟨wz, hwz⟩ : ∃ wz, wz = (((((((w9).setCell ⟨P, 5, none⟩ (.slice av (nd + 1) cv)).setCell ⟨w.heap.size, 0, none⟩ (.int .i64 d.con)).setCell ⟨w.heap.size, 1, none⟩ (.int .i64 d.sh)).setCell ⟨w.heap.size, 2, none⟩ (.int .i64 d.pr)).setCell ⟨w.heap.size, 3, none⟩ (.int .i64 d.lb)).setCell ⟨w.heap.size, 4, none⟩ (.int .i64 d.lv)).setCell ⟨w.heap.size, 5, none⟩ (.slice av (nd + 1) cv) := ⟨_, rfl⟩
          rw [← hwz] at Z OZ SZ MZ ⊢
          clear hwz
          obtain ⟨z0, z1, z2, z3, z4, z5, zf, zl⟩ := Z
          refine bodyPost_ret (v := .agg #[.int .i64 d.con, .int .i64 d.sh, .int .i64 d.pr, .int .i64 d.lb, .int .i64 d.lv, .slice av (nd + 1) cv]) (by simp [results, Try.results12, go_sem, z0, z1, z2, z3, z4, z5]) rfl ?_
          refine ⟨.agg #[.int .i64 d.con, .int .i64 d.sh, .int .i64 d.pr, .int .i64 d.lb, .int .i64 d.lv, .slice av (nd + 1) cv], _, ⟨d.con, d.sh, d.pr, d.lb, d.lv, d.cast ++ [⟨v4, v7⟩]⟩, t1 + 1 + 1 + 1, rfl, ⟨_, _, rfl, votsR.base OZ (by omega), fun _ => Iff.rfl⟩, ?_, SZ, by omega, MZ⟩
          show (d.cast ++ [(⟨v4, v7⟩ : Vot)]).length ≤ 62; rw [HL9.out]; omega
      have c4' : ¬ ((n6 : Int) = 4) := by omega
      by_cases c5 : n6 = 5
      · subst c5
        obtain ⟨w7, hmk, o7, g7⟩ := run_make_full (P := Try.prog) w6 (w6.heap.size) 26 25 i0 _ 2 Try.underlying26 hi hz0 hz1 .i64 .i64 61 (by rw [hz2]; omega) (by unfold maxLen; omega) (Nat.le_refl _)
        rw [zeroVots_made] at o7
        have hmk' : (Instr.makeSlice 26 (.int .i64 61) (.int .i64 61)).run Try.prog w6 = .ok (.slice (some ⟨w6.heap.size, 0, none⟩) 61 61) w7 := hmk
        have hb7 : Below w6.heap.size w6 w7 := (Below.refl _ _).grown g7 (Nat.le_refl _) (fun k h => by cases h)
        have hz7 := hb7.size
        obtain ⟨x0, x1, x2, x3, x4, x5, xf, xl⟩ := X6.below hb7
        have R7 := R6.below hb7
        obtain ⟨r0, r1, r2, r3, r4, r5, rf, rl⟩ := R7
        have R7 : Sl6 w7 w.heap.size zeroS (.slice none 0 0) := ⟨r0, r1, r2, r3, r4, r5, rf, rl⟩
        have h7 := h6.below hb7
        have M7 := M6.transB hb7
        have O7 : votsR.O w7 w6.heap.size (fun b => (Value.slice (some ⟨w6.heap.size, 0, none⟩) 61 61).ownBlock = some b) (.slice (some ⟨w6.heap.size, 0, none⟩) 61 61) zeroVots := ⟨by rw [zeroVots_len]; exact o7, rfl⟩
        have HnP : Hid (¬ (Value.slice (some ⟨w6.heap.size, 0, none⟩) 61 61).ownBlock = some P) := fun e => by simp only [Value.ownBlock, Option.map_some, Option.some.injEq] at e; omega
        have HFc : Hid (∀ c, (Value.slice (some ⟨w6.heap.size, 0, none⟩) 61 61).ownBlock = some c → c = w6.heap.size) := fun c e => by simp only [Value.ownBlock, Option.map_some, Option.some.injEq] at e; omega
        clear o7 hmk g7 X6 R6 h6 M6 O6
        go_wp2
        have hmP : Mod (fun b => b = P) (w7) ((w7).setCell ⟨P, 5, none⟩ (.slice (some ⟨w6.heap.size, 0, none⟩) 61 61)) := by
          refine msetZ (F := fun b => b = P) ?_ _ _ rfl
          exact Mod.refl _ _
        have hmR := set6_mod ((w7).setCell ⟨P, 5, none⟩ (.slice (some ⟨w6.heap.size, 0, none⟩) 61 61)) w.heap.size (.int .i64 d.con) (.int .i64 d.sh) (.int .i64 d.pr) (.int .i64 d.lb) (.int .i64 d.lv) (.slice (some ⟨w6.heap.size, 0, none⟩) 61 61)
        have Z := (R7.mod hmP (fun e => hPR e.symm)).set ⟨d.con, d.sh, d.pr, d.lb, d.lv, zeroVots⟩ (.slice (some ⟨w6.heap.size, 0, none⟩) 61 61)
        have OZ := votsR.mod (votsR.mod O7 hmP (fun c hc e => by have e' : c = P := e; rw [e'] at hc; exact HnP.out hc)) hmR (fun c hc e => by have := HFc.out c hc; omega)
        have SZ := (h7.mod hmP (fun b e => by omega)).mod hmR (fun b e => by omega)
        have MZ := (M7.trans2 hmP (fun b e hb => by omega)).trans2 hmR (fun b e hb => by omega)
        obtain ⟨wz, hwz⟩ : ∃ wz, wz = (((((((w7).setCell ⟨P, 5, none⟩ (.slice (some ⟨w6.heap.size, 0, none⟩) 61 61)).setCell ⟨w.heap.size, 0, none⟩ (.int .i64 d.con)).setCell ⟨w.heap.size, 1, none⟩ (.int .i64 d.sh)).setCell ⟨w.heap.size, 2, none⟩ (.int .i64 d.pr)).setCell ⟨w.heap.size, 3, none⟩ (.int .i64 d.lb)).setCell ⟨w.heap.size, 4, none⟩ (.int .i64 d.lv)).setCell ⟨w.heap.size, 5, none⟩ (.slice (some ⟨w6.heap.size, 0, none⟩) 61 61) := ⟨_, rfl⟩
        rw [← hwz] at Z OZ SZ MZ ⊢
        clear hwz
        obtain ⟨z0, z1, z2, z3, z4, z5, zf, zl⟩ := Z
        refine bodyPost_ret (v := .agg #[.int .i64 d.con, .int .i64 d.sh, .int .i64 d.pr, .int .i64 d.lb, .int .i64 d.lv, .slice (some ⟨w6.heap.size, 0, none⟩) 61 61]) (by simp [results, Try.results12, go_sem, z0, z1, z2, z3, z4, z5]) rfl ?_
        refine ⟨.agg #[.int .i64 d.con, .int .i64 d.sh, .int .i64 d.pr, .int .i64 d.lb, .int .i64 d.lv, .slice (some ⟨w6.heap.size, 0, none⟩) 61 61], _, ⟨d.con, d.sh, d.pr, d.lb, d.lv, zeroVots⟩, t1 + 1, rfl, ⟨_, _, rfl, votsR.base OZ (by omega), fun _ => Iff.rfl⟩, ?_, SZ, by omega, MZ⟩
        exact Nat.le_trans (Nat.le_of_eq zeroVots_len) (by omega)
      have c5' : ¬ ((n6 : Int) = 5) := by omega
      obtain ⟨x0, x1, x2, x3, x4, x5, xf, xl⟩ := X6
      obtain ⟨r0, r1, r2, r3, r4, r5, rf, rl⟩ := R6
      have R7 : Sl6 w6 w.heap.size zeroS (.slice none 0 0) := ⟨r0, r1, r2, r3, r4, r5, rf, rl⟩
      go_wp2
      have hmP : Mod (fun b => b = P) (w6) (w6) := by
        exact Mod.refl _ _
      have hmR := set6_mod (w6) w.heap.size (.int .i64 d.con) (.int .i64 d.sh) (.int .i64 d.pr) (.int .i64 d.lb) (.int .i64 d.lv) (.slice p nd q)
      have Z := (R7.mod hmP (fun e => hPR e.symm)).set d (.slice p nd q)
      have OZ := votsR.mod (votsR.mod O6 hmP (fun c hc e => by have e' : c = P := e; rw [e'] at hc; exact HnP.out hc)) hmR (fun c hc e => by have := HFb.out c hc; omega)
      have SZ := (h6.mod hmP (fun b e => by omega)).mod hmR (fun b e => by omega)
      have MZ := (M6.trans2 hmP (fun b e hb => by omega)).trans2 hmR (fun b e hb => by omega)
      obtain ⟨wz, hwz⟩ : ∃ wz, wz = ((((((w6).setCell ⟨w.heap.size, 0, none⟩ (.int .i64 d.con)).setCell ⟨w.heap.size, 1, none⟩ (.int .i64 d.sh)).setCell ⟨w.heap.size, 2, none⟩ (.int .i64 d.pr)).setCell ⟨w.heap.size, 3, none⟩ (.int .i64 d.lb)).setCell ⟨w.heap.size, 4, none⟩ (.int .i64 d.lv)).setCell ⟨w.heap.size, 5, none⟩ (.slice p nd q) := ⟨_, rfl⟩
      rw [← hwz] at Z OZ SZ MZ ⊢
      clear hwz
      obtain ⟨z0, z1, z2, z3, z4, z5, zf, zl⟩ := Z
      refine bodyPost_ret (v := .agg #[.int .i64 d.con, .int .i64 d.sh, .int .i64 d.pr, .int .i64 d.lb, .int .i64 d.lv, .slice p nd q]) (by simp [results, Try.results12, go_sem, z0, z1, z2, z3, z4, z5]) rfl ?_
      refine ⟨.agg #[.int .i64 d.con, .int .i64 d.sh, .int .i64 d.pr, .int .i64 d.lb, .int .i64 d.lv, .slice p nd q], _, d, t1 + 1, rfl, ⟨_, _, rfl, votsR.base OZ (by omega), fun _ => Iff.rfl⟩, ?_, SZ, by omega, MZ⟩
      rw [HND.out]; omega
end Go.Proofs.Ytjhmdnlkpkagiaa

/-
  The draw of PromiseSlot.
-/
set_option linter.unusedVariables false
set_option linter.unusedSimpArgs false
namespace Go.Proofs.Ytjhmdnlkpkagiaa
open Go.RowKit
set_option linter.unusedSectionVars false
variable [DecidableEq Vot] [Inhabited Vot] [DecidableEq Slt] [Inhabited Slt] [DecidableEq SltR] [Inhabited SltR] [DecidableEq Bal] [Inhabited Bal] [DecidableEq Ledg] [Inhabited Ledg] [DecidableEq Leg] [Inhabited Leg] [DecidableEq Acc] [Inhabited Acc] [DecidableEq AccR] [Inhabited AccR] [DecidableEq AccsR] [Inhabited AccsR] [DecidableEq SltsR] [Inhabited SltsR] [DecidableEq Logg] [Inhabited Logg] [DecidableEq LoggR] [Inhabited LoggR] [DecidableEq BytesR] [Inhabited BytesR] [DecidableEq RecsR] [Inhabited RecsR]
attribute [local go_sem ↓] Go.wp_at_zero Go.wp_at_succ

def DpE (w : World) (e : Ending) (w' : World) : Prop := ∃ v d b, e = .returned (.tuple #[v, .int .i64 b]) ∧ sltR.V w' v d ∧ d.cast.length ≤ 62 ∧ Below w.heap.size w w'
set_option maxRecDepth 20000 in
set_option maxHeartbeats 8000000 in
theorem drawProm_any (x : Value) (cs : List Byte) (w : World) (hx : BytesV w x cs) (hn : cs.length ≤ 1048576) :
    Calls Try.prog 5 #[x] w (DpE w) := by
  have hX := hx
  obtain ⟨ax, cx, rfl, _⟩ := hx
  go_enter Try.func5, Try.ntmps5
  go_wp2_with fail
  refine (l1Source_any _ cs _ (BytesV_below hX (by (repeat (first | exact Below.refl _ _ | assumption | refine Below.drew ?_ | refine balloc ?_ _ | refine bset ?_ (by simp; omega) _ | refine bset ?_ (by simp) _ | refine bstep ?_ (by assumption))))) (by omega)).mono ?_
  rintro e w1 ⟨a, cap, rfl, hs1, hb1⟩
  simp only [World.size_alloc] at hs1
  have z1 := hs1.lt
  have R : Sl6 w1 w.heap.size ⟨0, 0, 0, 0, 0, []⟩ (.slice none 0 0) := Sl6.new ⟨0, 0, 0, 0, 0, []⟩ (.slice none 0 0) _ (Mod.of_below (F := fun _ => False) hb1) (fun e => e)
  have hB1 : Below w.heap.size w w1 := by (repeat (first | exact Below.refl _ _ | assumption | refine Below.drew ?_ | refine balloc ?_ _ | refine bset ?_ (by simp; omega) _ | refine bset ?_ (by simp) _ | refine bstep ?_ (by assumption)))
  clear hb1
  go_wp2_with fail
  refine (l8Slot_any (w.heap.size + 1) w1 (w.heap.size + 1) a cs.length cap 0 hs1 (by omega)).mono ?_
  rintro e w2 ⟨v2, F2, d, t2, rfl, o2, hl, hs2, ht2, m2⟩
  obtain ⟨p, q, rfl, _⟩ := slt_cells o2
  obtain ⟨u, F, e, o3, _⟩ := o2
  simp only [Value.agg.injEq, Array.mk.injEq, List.cons.injEq, and_true, true_and] at e
  subst e
  have hB2 : Below w.heap.size w w2 := m2.below hB1 (by omega) (fun b hb => by omega)
  have z2 := m2.size
  have hB2w : Below w.heap.size w w2 := hB2
  have HFb : Hid (∀ c, F c → w.heap.size + 2 ≤ c) := fun c hc => by have := (votsR.rng o3 c hc).1; omega
  replace R := R.mod m2 (fun e => by omega)
  obtain ⟨n, hn'⟩ : ∃ n, n = d.cast.length := ⟨_, rfl⟩
  have HN : Hid (d.cast.length = n) := hn'.symm
  rw [← hn'] at o3 hl ⊢
  clear hn' m2 hB1 hs1
  have X : Sl6 (w2.alloc (.cells #[.int .i64 d.con, .int .i64 d.sh, .int .i64 d.pr, .int .i64 d.lb, .int .i64 d.lv, .slice p n q] 28)) w2.heap.size d (.slice p n q) := Sl6.new d (.slice p n q) _ (Mod.refl (fun _ => False) _) (fun e => e)
  have Q0 : SlW w (w2.alloc (.cells #[.int .i64 d.con, .int .i64 d.sh, .int .i64 d.pr, .int .i64 d.lb, .int .i64 d.lv, .slice p n q] 28)).drew (w.heap.size + 2) (w.heap.size + 1) (w.heap.size + 1) a cs.length cap t2 w2.heap.size w.heap.size d p n q F := SlW.below (W := w2.alloc (.cells #[.int .i64 d.con, .int .i64 d.sh, .int .i64 d.pr, .int .i64 d.lb, .int .i64 d.lv, .slice p n q] 28)) ⟨X, R.below (balloc (Below.refl _ _) _), votsR.alloc (votsR.base o3 (by omega)) _, hs2.below (balloc (Below.refl _ _) _), (Mod.of_below hB2w).trans (Mod.of_below (balloc (Below.refl _ _) _))⟩ (Below.drew (Below.refl _ _))
  have hXb : w2.heap.size ≠ w.heap.size + 1 := by omega
  have hRb : w.heap.size ≠ w.heap.size + 1 := by omega
  obtain ⟨x0, x1, x2, x3, x4, x5, xf, xl⟩ := X
  have hXR : w2.heap.size ≠ w.heap.size := by omega
  clear R o3 hs2 hB2
  go_wp2
  refine wp_region_noPanic ?_
  refine region_upto (fun W => W.cell? ⟨w2.heap.size, 0, none⟩ = some (.int .i64 d.con) ∧ W.cell? ⟨w2.heap.size, 1, none⟩ = some (.int .i64 d.sh) ∧ W.cell? ⟨w2.heap.size, 2, none⟩ = some (.int .i64 d.pr) ∧ W.cell? ⟨w2.heap.size, 3, none⟩ = some (.int .i64 d.lb) ∧ W.cell? ⟨w2.heap.size, 4, none⟩ = some (.int .i64 d.lv) ∧ W.cell? ⟨w2.heap.size, 5, none⟩ = some (.slice p n q)) 9 (by kernel_rfl) ⟨x0, x1, x2, x3, x4, x5⟩ (fun hS => ?_)
  refine upto_take (i := 0) (v := ?_) rfl (by kernel_rfl) (by kernel_rfl) (by kernel_rfl) (by kernel_rfl) (fun _ _ _ h => h) (by rfl) hS ?_ ?_
  rotate_left
  · intro wS hSw
    try dsimp only at hSw
    first | (go_simp; done) | (go_simp; with_reducible rfl)
  try simp only [Act.put, List.getElem_toArray, List.getElem_cons_zero, List.getElem_cons_succ, List.setIfInBounds_toArray, List.set_cons_zero, List.set_cons_succ]
  refine upto_take (i := 1) (v := ?_) rfl (by kernel_rfl) (by kernel_rfl) (by kernel_rfl) (by kernel_rfl) (fun _ _ _ h => h) (by rfl) hS ?_ ?_
  rotate_left
  · intro wS hSw
    try dsimp only at hSw
    first | (go_simp; done) | (go_simp; with_reducible rfl)
  try simp only [Act.put, List.getElem_toArray, List.getElem_cons_zero, List.getElem_cons_succ, List.setIfInBounds_toArray, List.set_cons_zero, List.set_cons_succ]
  refine upto_take (i := 2) (v := ?_) rfl (by kernel_rfl) (by kernel_rfl) (by kernel_rfl) (by kernel_rfl) (fun _ _ _ h => h) (by rfl) hS ?_ ?_
  rotate_left
  · intro wS hSw
    try dsimp only at hSw
    first | (go_simp; done) | (go_simp; with_reducible rfl)
  try simp only [Act.put, List.getElem_toArray, List.getElem_cons_zero, List.getElem_cons_succ, List.setIfInBounds_toArray, List.set_cons_zero, List.set_cons_succ]
  refine upto_take (i := 4) (v := ?_) rfl (by kernel_rfl) (by kernel_rfl) (by kernel_rfl) (by kernel_rfl) (fun _ _ _ h => h) (by rfl) hS ?_ ?_
  rotate_left
  · intro wS hSw
    try dsimp only at hSw
    first | (go_simp; done) | (go_simp; with_reducible rfl)
  try simp only [Act.put, List.getElem_toArray, List.getElem_cons_zero, List.getElem_cons_succ, List.setIfInBounds_toArray, List.set_cons_zero, List.set_cons_succ]
  clear x0 x1 x2 x3 x4 x5 xf xl hS
  refine upto_step (i := 3) (by kernel_rfl) rfl ?_
  intro K hK
  go_simp
  refine (l1Next_any (w.heap.size + 1) _ (w.heap.size + 1) a cs.length cap (t2) 9 Q0.S (by omega) (by omega) (by omega)).mono ?_
  rintro e w3 ⟨n3, rfl, hnn3, hw3, mw3⟩
  have Q3 := Q0.next hw3 mw3 hXb hRb (fun c hc e => by have := HFb.out c hc; omega)
  clear hw3 mw3 Q0
  refine hK _ _ (fun _ => ⟨Q3.X.c0, Q3.X.c1, Q3.X.c2, Q3.X.c3, Q3.X.c4, Q3.X.c5⟩) ?_
  clear hK K
  try simp only [Act.put, List.getElem_toArray, List.getElem_cons_zero, List.getElem_cons_succ, List.setIfInBounds_toArray, List.set_cons_zero, List.set_cons_succ]
  refine upto_step (i := 5) (by kernel_rfl) rfl ?_
  intro K hK
  go_simp
  refine (l1Next_any (w.heap.size + 1) _ (w.heap.size + 1) a cs.length cap (t2 + 1) 9 Q3.S (by omega) (by omega) (by omega)).mono ?_
  rintro e w5 ⟨n5, rfl, hnn5, hw5, mw5⟩
  have Q5 := Q3.next hw5 mw5 hXb hRb (fun c hc e => by have := HFb.out c hc; omega)
  clear hw5 mw5 Q3
  refine hK _ _ (fun _ => ⟨Q5.X.c0, Q5.X.c1, Q5.X.c2, Q5.X.c3, Q5.X.c4, Q5.X.c5⟩) ?_
  clear hK K
  try simp only [Act.put, List.getElem_toArray, List.getElem_cons_zero, List.getElem_cons_succ, List.setIfInBounds_toArray, List.set_cons_zero, List.set_cons_succ]
  refine upto_step (i := 6) (by kernel_rfl) rfl ?_
  intro K hK
  go_simp
  obtain ⟨w6, hw6⟩ : ∃ x, x = w5.alloc (.cells #[.int .i64 (n3 : Int), .int .i64 (n5 : Int), .int .i64 1000, .int .i64 1001, .int .i64 (-1)] 2) := ⟨_, rfl⟩
  obtain ⟨g, hg⟩ : ∃ x, x = w5.heap.size := ⟨_, rfl⟩
  have hb6 : Below w5.heap.size w5 w6 := by rw [hw6]; exact balloc (Below.refl _ _) _
  have L : ∀ i, i < ([(n3 : Int), (n5 : Int), 1000, 1001, -1] : List Int).length → w6.cell? ⟨g, i, none⟩ = some (.int .i64 (([(n3 : Int), (n5 : Int), 1000, 1001, -1] : List Int).getD i 0)) := by
    rw [hw6, hg]
    intro i hi
    match i, hi with
    | 0, _ => simp [go_sem]
    | 1, _ => simp [go_sem]
    | 2, _ => simp [go_sem]
    | 3, _ => simp [go_sem]
    | 4, _ => simp [go_sem]
  have hgb : g ≠ w.heap.size + 1 := by have := Q5.S.lt; omega
  rw [← hw6, ← hg]
  have Q6 := Q5.below hb6
  clear hw6 hg hb6 Q5
  refine hK _ _ (fun _ => ⟨Q6.X.c0, Q6.X.c1, Q6.X.c2, Q6.X.c3, Q6.X.c4, Q6.X.c5⟩) ?_
  clear hK K
  try simp only [Act.put, List.getElem_toArray, List.getElem_cons_zero, List.getElem_cons_succ, List.setIfInBounds_toArray, List.set_cons_zero, List.set_cons_succ]
  refine upto_step (i := 7) (by kernel_rfl) rfl ?_
  intro K hK
  go_simp
  refine (l1Pick_any (w.heap.size + 1) _ (w.heap.size + 1) a cs.length cap (t2 + 1 + 1) g 5 [(n3 : Int), (n5 : Int), 1000, 1001, -1] Q6.S (by omega) hgb (by simp) (by simp) L).mono ?_
  rintro e w9 ⟨b, rfl, hq, h9, m9⟩
  have Q9 := Q6.next h9 m9 hXb hRb (fun c hc e => by have := HFb.out c hc; omega)
  clear hq h9 m9 Q6 L
  refine hK _ _ (fun _ => ⟨Q9.X.c0, Q9.X.c1, Q9.X.c2, Q9.X.c3, Q9.X.c4, Q9.X.c5⟩) ?_
  clear hK K
  try simp only [Act.put, List.getElem_toArray, List.getElem_cons_zero, List.getElem_cons_succ, List.setIfInBounds_toArray, List.set_cons_zero, List.set_cons_succ]
  obtain ⟨X9, R9, O9, S9, M9⟩ := Q9
  have hm := set6_mod w9 w.heap.size (.int .i64 d.con) (.int .i64 d.sh) (.int .i64 d.pr) (.int .i64 d.lb) (.int .i64 d.lv) (.slice p n q)
  have X10 := X9.mod hm (fun e => hXR e)
  have Z := R9.set d (.slice p n q)
  have O10 := votsR.mod O9 hm (fun c hc e => by have := HFb.out c hc; omega)
  have hB9 : Below w.heap.size w w9 := M9.below (Below.refl _ _) (Nat.le_refl _) (fun b e => by omega)
  have hB10 : Below w.heap.size w (((((((w9).setCell ⟨w.heap.size, 0, none⟩ (.int .i64 d.con)).setCell ⟨w.heap.size, 1, none⟩ (.int .i64 d.sh)).setCell ⟨w.heap.size, 2, none⟩ (.int .i64 d.pr)).setCell ⟨w.heap.size, 3, none⟩ (.int .i64 d.lb)).setCell ⟨w.heap.size, 4, none⟩ (.int .i64 d.lv)).setCell ⟨w.heap.size, 5, none⟩ (.slice p n q)) := hm.below hB9 hB9.size (fun b e => by omega)
  obtain ⟨r0, r1, r2, r3, r4, r5, rf, rl⟩ := R9
  clear X9 O9 S9 M9 hm hB9
  refine upto_step (i := 8) (by kernel_rfl) rfl ?_
  intro K hK
  go_simp
  obtain ⟨wz, hwz⟩ : ∃ wz, wz = ((((((w9).setCell ⟨w.heap.size, 0, none⟩ (.int .i64 d.con)).setCell ⟨w.heap.size, 1, none⟩ (.int .i64 d.sh)).setCell ⟨w.heap.size, 2, none⟩ (.int .i64 d.pr)).setCell ⟨w.heap.size, 3, none⟩ (.int .i64 d.lb)).setCell ⟨w.heap.size, 4, none⟩ (.int .i64 d.lv)).setCell ⟨w.heap.size, 5, none⟩ (.slice p n q) := ⟨_, rfl⟩
  rw [← hwz] at X10 Z O10 hB10 ⊢
  clear hwz r0 r1 r2 r3 r4 r5 rf rl
  refine hK _ _ (fun _ => ⟨X10.c0, X10.c1, X10.c2, X10.c3, X10.c4, X10.c5⟩) ?_
  clear hK K X10
  obtain ⟨z0, z1, z2', z3, z4, z5, zf, zl⟩ := Z
  try simp only [Act.put, List.getElem_toArray, List.getElem_cons_zero, List.getElem_cons_succ, List.setIfInBounds_toArray, List.set_cons_zero, List.set_cons_succ]
  refine upto_step (i := 9) (by kernel_rfl) rfl ?_
  intro K hK
  go_simp
  refine hK _ _ (fun h => absurd rfl h) ?_
  clear hK K
  refine upto_done (by kernel_rfl) ?_
  refine NoPanic.normal ?_
  go_wp2
  refine bodyPost_ret (v := .tuple #[.agg #[.int .i64 d.con, .int .i64 d.sh, .int .i64 d.pr, .int .i64 d.lb, .int .i64 d.lv, .slice p n q], .int .i64 b]) (by simp [results, Try.results5, go_sem, z0, z1, z2', z3, z4, z5]) rfl ?_
  exact ⟨_, d, b, rfl, ⟨_, rfl, votsR.ofO O10⟩, by rw [HN.out]; omega, hB10⟩
end Go.Proofs.Ytjhmdnlkpkagiaa

/-
  Bytes as text; one row of a row of rows; whether the code is too long.
-/
namespace Go.Proofs.Ytjhmdnlkpkagiaa
open Go.RowKit
set_option linter.unusedSectionVars false
variable [DecidableEq BytesR] [Inhabited BytesR] [DecidableEq RecsR] [Inhabited RecsR]
set_option linter.unusedSimpArgs false
attribute [local go_sem ↓] Go.wp_at_zero Go.wp_at_succ

set_option maxHeartbeats 400000 in
theorem lwBig_any (x : Value) (xs : List Byte) (w : World) (hx : bytesR.V w x xs) :
    Calls Try.prog 4 #[x] w fun e w' => e = .returned (.bool (decide (1048576 < xs.length))) ∧ w' = w := by
  obtain ⟨a, c, rfl, h1, h2, _⟩ := hx
  unfold maxLen at h2
  generalize xs.length = n at *
  go_enter Try.func4, Try.ntmps4
  by_cases h : 1048576 < n
  · have h' : (1048576 : Int) < (n : Int) := by omega
    go_wp2
    go_ret
    exact ⟨by simp [h], rfl⟩
  · have h' : ¬ (1048576 : Int) < (n : Int) := by omega
    go_wp2
    go_ret
    exact ⟨by simp [h], rfl⟩
end Go.Proofs.Ytjhmdnlkpkagiaa

/-
  What is handed in, read as data, is data in memory: rows and structs of rows.
-/
namespace Go.Proofs.Ytjhmdnlkpkagiaa
open Go.ChangeShapes Go.WideShapes Go.ChangeAt Go.RowKit Go.Joins

theorem spot_none {W : World} {base k : Nat} {a : Addr} {cs : List Value} (hk : 0 < k) (hc : W.cells? base a k = some cs) : a.spot = none := by
  obtain ⟨hb, hl, hcell⟩ := World.cells?_some hc
  have q0 := hcell 0 hk
  obtain ⟨b, o, s⟩ := a
  cases s with
  | none => rfl
  | some s =>
    have : 0 < cs.length := by omega
    simp [Addr.add, World.cell?, this] at q0
    split at q0 <;> simp at q0
theorem add_plain (b o i : Nat) : (Addr.mk b o none).add i = ⟨b, o + i, none⟩ := by
  by_cases h : i = 0
  · subst h; simp [Addr.add]
  · simp [Addr.add, h]
theorem openRow {H : Type} {enc : TypeId × Value → H} {W : World} {sp : Nat → Bool} {held : Bool} {n : Nat} {v : Value} {y : DataW H × List MemPlace} {t e size : Nat} {α : Type} [Inhabited α] {q : List Value → α → Prop}
    (ht : Try.prog.underlying t = some (.slice e)) (hz : Try.prog.cellsOf e = size) (hs : 0 < size)
    (hq : ∀ n cs y, DataW.trod enc Try.prog W 0 sp held n e cs = some y → cs.length = size → ∃ x, q cs x) (h : DataW.trod enc Try.prog W 0 sp held n t [v] = some y) :
    ∃ (a : Option Addr) (cap : Nat) (xs : List α) (cs : Nat → List Value), v = .slice a xs.length cap ∧ xs.length ≤ cap ∧ cap ≤ maxLen ∧ ∀ i, i < xs.length → q (cs i) (xs.getD i default) ∧ (cs i).length = size ∧ ∃ b o, a = some ⟨b, o, none⟩ ∧ ∀ j, j < size → W.cell? ⟨b, o + i * size + j, none⟩ = (cs i)[j]? := by
  rcases Go.Deep.open_slice ht h with ⟨hcs, _⟩ | ⟨a, len, cap, m, n', D, Pl, hcs, hb, hl, hm, hmm, _, hc⟩
  · simp at hcs
    subst hcs
    exact ⟨none, 0, [], fun _ => [], rfl, by simp, by unfold maxLen; omega, fun i hi => by simp at hi⟩
  · simp at hcs
    subst hcs
    have hlm : len ≤ m := by rw [hmm]; split <;> omega
    rw [hz] at hc
    have h1 : ∀ i, i < len → ∃ z : List Value × α, q z.1 z.2 ∧ z.1.length = size ∧ ∃ b o, a = ⟨b, o, none⟩ ∧ ∀ j, j < size → W.cell? ⟨b, o + i * size + j, none⟩ = z.1[j]? := by
      intro i hi
      obtain ⟨cs', h1, h2⟩ := hc i (by omega)
      obtain ⟨_, hl', hcell⟩ := World.cells?_some h1
      obtain ⟨x, hx⟩ := hq _ _ _ h2 hl'
      obtain ⟨cs0, k1, _⟩ := hc 0 (by omega)
      have hsp := spot_none hs k1
      obtain ⟨b, o, s⟩ := a
      have hs0 : s = none := by simpa [Addr.add] using hsp
      subst hs0
      refine ⟨(cs', x), hx, hl', b, o, rfl, fun j hj => ?_⟩
      have := hcell j hj
      rw [add_plain, add_plain] at this
      exact this
    obtain ⟨f, hf⟩ := Go.Deep.choose_lt h1
    refine ⟨some a, cap, (List.range len).map (fun i => (f i).2), fun i => (f i).1, by simp, by simpa using hl, hm, fun i hi => ?_⟩
    simp at hi
    obtain ⟨g1, g2, b, o, rfl, g3⟩ := hf i hi
    have e : (List.map (fun i => (f i).2) (List.range len)).getD i default = (f i).2 := by simp [List.getD, hi]
    rw [e]
    exact ⟨g1, g2, b, o, rfl, g3⟩
end Go.Proofs.Ytjhmdnlkpkagiaa

