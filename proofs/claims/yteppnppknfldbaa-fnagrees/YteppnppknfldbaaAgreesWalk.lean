import Derived.Test.YteppnppknfldbaaPrnAgreesLaw20
import Derived.Test.YteppnppknfldbaaPrnAgreesLaw21
import Derived.Test.YteppnppknfldbaaPrnAgreesLaw22
import Derived.Test.YteppnppknfldbaaPrnAgreesLaw23
import Derived.Test.YteppnppknfldbaaPrnAgreesLaw24
import Derived.Test.YteppnppknfldbaaPrnAgreesLaw25
import Derived.Test.YteppnppknfldbaaPrnAgreesLaw15
import Derived.Test.YteppnppknfldbaaPrnAgreesLaw8
import Derived.BigQuiet
import Derived.Deep.QuietTactic
import Derived.Deep.RegionHeld3

/-
  Acceptors agree whatever the ballots: the walk.
-/
set_option linter.unusedVariables false
set_option linter.unusedSimpArgs false
namespace Go.Proofs.Yteppnppknfldbaa
open Go.RowKit
set_option linter.unusedSectionVars false
variable [DecidableEq Vot] [Inhabited Vot] [DecidableEq Slt] [Inhabited Slt] [DecidableEq SltR] [Inhabited SltR] [DecidableEq Bal] [Inhabited Bal] [DecidableEq Ledg] [Inhabited Ledg] [DecidableEq Leg] [Inhabited Leg] [DecidableEq Acc] [Inhabited Acc] [DecidableEq AccR] [Inhabited AccR] [DecidableEq AccsR] [Inhabited AccsR] [DecidableEq SltsR] [Inhabited SltsR] [DecidableEq Cont] [Inhabited Cont] [DecidableEq Logg] [Inhabited Logg] [DecidableEq LoggR] [Inhabited LoggR] [DecidableEq BytesR] [Inhabited BytesR] [DecidableEq RecsR] [Inhabited RecsR]
attribute [local go_sem ↓] Go.wp_at_zero Go.wp_at_succ

theorem valField (u v : Int) (w : World) : (Instr.field 36 (.agg #[.int .i64 u, .int .i64 v]) 1).run Try.prog w = .ok (.int .i64 v) w := by kernel_rfl
namespace agreesLaw
set_option maxRecDepth 20000 in
set_option maxHeartbeats 16000000 in
theorem walk (x0 : Value) (d0 : List Byte) (w : World) (hx0 : bytesR.V w x0 d0) :
    Calls Try.prog 3 #[x0] w fun e w' => e = .returned (.bool true) ∧ Below w.heap.size w w' := by
  have hX0 := hx0
  obtain ⟨ax, cx, rfl⟩ := bytes_form hx0
  obtain ⟨i0, hi0, hz0, hz1, hz2⟩ := info_parts infoAccs
  go_enter Try.func3, Try.ntmps3
  go_wp2_with fail
  refine (lwBig_any _ d0 _ hX0).mono ?_
  rintro e w' ⟨rfl, hw⟩
  obtain rfl : w = w' := hw.symm
  by_cases hbig : 1048576 < d0.length
  · rw [decide_eq_true hbig]
    go_wp2
    go_ret
    exact ⟨rfl, Below.refl _ _⟩
  rw [decide_eq_false hbig]
  have hd0 : d0.length ≤ 1048576 := by omega
  have HAt : Hid (∀ (W : World) (K : Nat) (m : Int), Below w.heap.size w W → K ≤ 1000 → 1 ≤ m → m ≤ 200 → Calls Try.prog 5 #[.slice ax d0.length cx, .int .i64 K, .int .i64 m] W fun e w' => ∃ r : Nat, e = .returned (.int .i64 r) ∧ (r : Int) < m ∧ Below W.heap.size W w') := fun W K m hW hK h1 h2 => lwAtK_any _ d0 W K m (BytesV_below hX0 hW) hd0 hK h1 h2
  have HRe : Hid (∀ (W : World) (K m : Nat), Below w.heap.size w W → K ≤ 100 → m ≤ 5 → Calls Try.prog 7 #[.slice ax d0.length cx, .int .i64 K, .int .i64 m] W fun e w' => ∃ R v, e = .returned v ∧ w'.ownsRow W.heap.size 2 1 v R.length (intsC R) ∧ Rch R m ∧ Below W.heap.size W w') := fun W K m hW hK hm => reached_any _ d0 K m W (BytesV_below hX0 hW) hd0 hK hm
  generalize d0.length = dl at *
  clear hx0 hX0 hbig hd0
  go_wp2_with fail
  refine (HAt.out _ 0 3 (Below.refl _ _) (by omega) (by omega) (by omega)).mono ?_
  rintro e w1 ⟨r0, rfl, hr0, hB1⟩
  obtain ⟨n, hn, hn5⟩ : ∃ n : Nat, (1 : Int) + 2 * r0 = n ∧ (n = 1 ∨ n = 3 ∨ n = 5) := ⟨1 + 2 * r0, by omega, by omega⟩
  have v1 : IntKind.i64.wrap (2 * (r0 : Int)) = 2 * r0 := wrapId (by omega) (by omega)
  have v2 : IntKind.i64.wrap (1 + 2 * (r0 : Int)) = n := by rw [wrapId (by omega) (by omega)]; exact hn
  have HN5 : Hid (n = 1 ∨ n = 3 ∨ n = 5) := hn5
  have hnle : 1 ≤ n ∧ n ≤ 5 := by omega
  obtain ⟨w2, hmk, o2, g2⟩ := run_make_full (P := Try.prog) w1 w1.heap.size 25 50 i0 _ 1 Try.underlying25 hi0 hz0 hz1 .i64 .i64 n (by rw [hz2]; omega) (by unfold maxLen; omega) (Nat.le_refl _)
  have hV2 := made_repA (R := accR) (lv := lvAcc) (u := .agg #[.slice none 0 0]) (x := accA) (size := 1) rfl rfl (by decide) accA_O o2
  have HV2 : Hid (accsR.V w2 (.slice (some ⟨w1.heap.size, 0, none⟩) n n) (List.replicate n accA)) := by
    have := accsR.ofO hV2
    exact this
  have hb2 : Below w1.heap.size w1 w2 := (Below.refl _ _).grown g2 (Nat.le_refl _) (fun k h => by cases h)
  have hB2 : Below w.heap.size w w2 := bstep hB1 hb2
  have HA2 : Hid (Ag (List.replicate n accA) 7 1 0 8 0) := ag_new hnle.1 hnle.2 7 1
  clear o2 g2 hV2 hb2 hn5 hr0
  go_wp2
  clear v1 v2 hn hmk hB1
  go_loopw [4, 5, 6] (fun vl vw vk w' => ∃ (k : Nat) (l : List Acc) (av : Option Addr) (cv : Nat) (wv v : Int), k ≤ 12 ∧ vl = .slice av n cv ∧ vw = .int .i64 wv ∧ vk = .int .i64 k ∧ Hid (accsR.V w' (.slice av n cv) l) ∧ Hid (l.length = n) ∧ Hid (Ag l 7 1 k 8 v) ∧ Hid (wv = 0 ∨ ∃ u, isCh (slotsL l 7 1) u ∧ u.val = wv) ∧ Below w2.heap.size w2 w') (fun _ _ vk _ => 12 - (intOf vk).toNat)
  case atStart => exact ⟨0, List.replicate n accA, _, _, 0, 0, by omega, rfl, rfl, rfl, HV2, List.length_replicate, HA2, .inl rfl, Below.refl _ _⟩
  case round =>
    clear HV2 HA2
    obtain ⟨k, l, av, cv, wv, v, hk, rfl, rfl, rfl, HV, HL, HA, HW, hbl⟩ := hrel
    have hBr : Below w.heap.size w wr := bstep hB2 hbl
    by_cases hlt : k < 12
    · have hlt' : (k : Int) < 12 := by omega
      have hw1' : IntKind.i64.wrap ((k : Int) + 1) = ((k + 1 : Nat) : Int) := by rw [wrapId (by omega) (by omega)]; omega
      have hw90 : IntKind.i64.wrap ((k : Int) + 90) = ((k + 90 : Nat) : Int) := by rw [wrapId (by omega) (by omega)]; omega
      have hw60 : IntKind.i64.wrap ((k : Int) + 60) = ((k + 60 : Nat) : Int) := by rw [wrapId (by omega) (by omega)]; omega
      go_wp2_with fail
      refine (HRe.out _ (k + 1) n (by (repeat (first | exact Below.refl _ _ | assumption | refine Below.drew ?_ | refine balloc ?_ _ | refine bset ?_ (by simp; omega) _ | refine bset ?_ (by simp) _ | refine bstep ?_ (by assumption)))) (by omega) (by omega)).mono ?_
      rintro e w3 ⟨R, vR, rfl, oR, hR, hb3⟩
      obtain ⟨aR, cR, rfl⟩ := owns_form oR
      have hIV3 : IntsV w3 (.slice aR R.length cR) R := IntsV_of_owns oR
      have HR : Hid (Rch R n) := hR
      have hW3 : Below wr.heap.size wr w3 := hb3
      clear oR hR hb3
      go_wp2_with fail
      refine (HAt.out _ (k + 90) 9 (bstep hBr (by (repeat (first | exact Below.refl _ _ | assumption | refine Below.drew ?_ | refine balloc ?_ _ | refine bset ?_ (by simp; omega) _ | refine bset ?_ (by simp) _ | refine bstep ?_ (by assumption))))) (by omega) (by omega) (by omega)).mono ?_
      rintro e w4 ⟨b, rfl, hb, hb4⟩
      have hIV4 := IntsV_below hIV3 hb4
      have hW4 : Below wr.heap.size wr w4 := bstep hW3 hb4
      clear hb4 hIV3 hW3
      go_wp2_with fail
      refine (HAt.out _ (k + 60) 2 (bstep hBr (by (repeat (first | exact Below.refl _ _ | assumption | refine Below.drew ?_ | refine balloc ?_ _ | refine bset ?_ (by simp; omega) _ | refine bset ?_ (by simp) _ | refine bstep ?_ (by assumption))))) (by omega) (by omega) (by omega)).mono ?_
      rintro e w5 ⟨o5, rfl, ho5, hb5⟩
      have hIV5 := IntsV_below hIV4 hb5
      have hW5 : Below wr.heap.size wr w5 := bstep hW4 hb5
      have hwo : IntKind.i64.wrap (1 + (o5 : Int)) = 1 + (o5 : Int) := wrapId (by omega) (by omega)
      have hvb : votB ⟨(b : Int), 1 + (o5 : Int)⟩ = true := by
        show (inB (b : Int) 0 1000 && inB (1 + (o5 : Int)) 1 2) = true
        rw [Bool.and_eq_true, inBi, inBi]
        omega
      have hbal : balF R l.length (b : Int) (1 + (o5 : Int)) = 0 := by rw [HL.out]; exact bal_rchA HR.out hvb
      obtain ⟨hlen, hcc, v', hag, hc0, hst, _⟩ := run_ag HA.out (s := 1) (c := 7) rfl (by omega) (show (b : Int) ≤ 8 by omega) (show k < 60 by omega) hbal
      rw [HL.out] at hlen
      have HRun : Hid (Calls Try.prog 6 #[.slice av n cv, .slice aR R.length cR, .int .i64 7, .int .i64 1, .int .i64 (b : Int), .int .i64 (1 + (o5 : Int))] w5 (RunE (runD l R 7 1 (b : Int) (1 + (o5 : Int))) w5)) := implRun_u _ _ l R 7 1 _ _ w5 (accsR.below HV.out hW5) hIV5
      obtain ⟨r, hr⟩ : ∃ r, r = runD l R 7 1 (b : Int) (1 + (o5 : Int)) := ⟨_, rfl⟩
      rw [← hr] at hlen hcc hag hc0 hst HRun
      clear hr hvb hbal hb5 hIV4 hIV5 hW4 HR
      go_wp2_with fail
      refine HRun.out.mono ?_
      rintro e w6 ⟨v6, F6, rfl, o6, hb6⟩
      obtain ⟨u6, G6, rfl, o6', _⟩ := o6
      obtain ⟨a6, c6, rfl⟩ := accs_form (accsR.ofO o6')
      rw [hlen] at o6' ⊢
      have HV6 : Hid (accsR.V w6 (.slice a6 n c6) r.accs) := accsR.ofO o6'
      have HL6 : Hid (r.accs.length = n) := hlen
      have HA6 : Hid (Ag r.accs 7 1 (k + 1) 8 v') := hag
      have HC0 : Hid (r.code = 0 → r.value = v' ∧ ∃ u, isCh (slotsL r.accs 7 1) u) := hc0
      have HSt : Hid (∀ u, isCh (slotsL l 7 1) u → isCh (slotsL r.accs 7 1) u) := hst
      obtain ⟨rc, hrc⟩ : ∃ rc, rc = r.code := ⟨_, rfl⟩
      obtain ⟨rv, hrv⟩ : ∃ rv, rv = r.value := ⟨_, rfl⟩
      have HRc : Hid (r.code = rc) := hrc.symm
      have HRvv : Hid (r.value = rv) := hrv.symm
      have HRcc : Hid (rc = 0 ∨ rc = 4) := by rw [hrc]; exact hcc
      rw [← hrc, ← hrv]
      have hB6 : Below w2.heap.size w2 w6 := bstep hbl (bstep hW5 hb6)
      have hwr6 : Below wr.heap.size wr w6 := bstep hW5 hb6
      have f10 : ((rc != 0) && (rc != 4)) = false := by rcases HRcc.out with e | e <;> rw [e] <;> rfl
      have hnn : ((n : Int) != n) = false := bne_self_eq_false _
      obtain ⟨ys, hys0⟩ := chs_exL r.accs 7 1
      have hfre : freC r.accs 7 1 = 0 := by unfold freC; rw [if_pos (listF_ok hag.ok)]; rfl
      have HYs : Hid (Chs (slotsL r.accs 7 1) ys) := hys0 hfre
      have hask : askF (slotsL r.accs 7 1) = 0 := ask_slots hag.ok rfl
      have hsD : slotsD r.accs 7 1 = ⟨0, slotsL r.accs 7 1⟩ := by unfold slotsD; rw [if_pos (listF_ok hag.ok)]; rfl
      have hagB : agB (slotsL r.accs 7 1) ys = true := (agB_iff hask).2 (fun i hi => by
        have h1 := hag.ch_val ((HYs.out.mem (ys.getD i default)).1 (mem_getD hi))
        have h2 := hag.ch_val ((HYs.out.mem (ys.getD 0 default)).1 (mem_getD (by omega)))
        rw [h1, h2])
      obtain ⟨hv, hhv⟩ : ∃ hv, hv = hdV ys := ⟨_, rfl⟩
      have HHv : Hid (hv = hdV ys) := hhv
      have HSl : Hid (∀ W, Below w6.heap.size w6 W → Calls Try.prog 8 #[.slice a6 n c6, .int .i64 7, .int .i64 1] W fun e w' => ∃ p q, e = .returned (.agg #[.int .i64 0, .slice p (slotsL r.accs 7 1).length q]) ∧ sltsR.V w' (.slice p (slotsL r.accs 7 1).length q) (slotsL r.accs 7 1) ∧ Below W.heap.size W w') := fun W hW => by
        refine (implSlotsFor_u _ r.accs 7 1 W (accsR.below HV6.out hW)).mono ?_
        rintro e w' ⟨v, F, rfl, o, hb⟩
        rw [hsD] at o
        obtain ⟨u, G, rfl, o1, _⟩ := o
        obtain ⟨p, q, rfl⟩ := slts_form (sltsR.ofO o1)
        exact ⟨p, q, rfl, sltsR.ofO o1, hb⟩
      obtain ⟨cc, hcc'⟩ : ∃ cc, cc = chC r.accs 7 1 ys := ⟨_, rfl⟩
      have HCh : Hid (∀ W, Below w6.heap.size w6 W → Calls Try.prog 9 #[.slice a6 n c6, .int .i64 7, .int .i64 1] W fun e w' => e = .returned (.agg #[.int .i64 cc, .int .i64 hv]) ∧ Below W.heap.size W w') := fun W hW => by
        have h := implChosenAt_any sortsV (.slice a6 n c6) r.accs 7 1 ys W (accsR.below HV6.out hW) hys0
        have e : chR r.accs 7 1 ys = hv := by unfold chR; rw [if_pos hfre, hhv]
        rw [e, ← hcc'] at h
        exact h
      have HAg0 : Hid (∀ W p q, sltsR.V W (.slice p (slotsL r.accs 7 1).length q) (slotsL r.accs 7 1) → Calls Try.prog 10 #[.slice p (slotsL r.accs 7 1).length q] W fun e w' => e = .returned (.bool true) ∧ Below W.heap.size W w') := fun W p q hW => by
        have h := implAgree_any sortsV _ (slotsL r.accs 7 1) ys W hW (fun _ => HYs.out)
        rw [hagB] at h
        exact h
      generalize (slotsL r.accs 7 1).length = ns at HSl HAg0
      clear hrc hrv hlen hcc hag hc0 hst o6' HRun hW5 hys0 hfre hask hsD hagB hhv hcc' hb6 hwo hw1' hw90 hw60
      have f10' : ¬ (rc ≠ 0 ∧ rc ≠ 4) := by rcases HRcc.out with e | e <;> omega
      rcases HRcc.out with hrcx | hrcx
      · subst hrcx
        go_wp2_with fail
        refine (HSl.out _ (by (repeat (first | exact Below.refl _ _ | assumption | refine Below.drew ?_ | refine balloc ?_ _ | refine bset ?_ (by simp; omega) _ | refine bset ?_ (by simp) _ | refine bstep ?_ (by assumption))))).mono ?_
        rintro e w7 ⟨ps, qs, rfl, hVs, hb7⟩
        have hB7 : Below w2.heap.size w2 w7 := bstep (by (repeat (first | exact Below.refl _ _ | assumption | refine Below.drew ?_ | refine balloc ?_ _ | refine bset ?_ (by simp; omega) _ | refine bset ?_ (by simp) _ | refine bstep ?_ (by assumption)))) hb7
        have hW7 : Below w6.heap.size w6 w7 := bstep (by (repeat (first | exact Below.refl _ _ | assumption | refine Below.drew ?_ | refine balloc ?_ _ | refine bset ?_ (by simp; omega) _ | refine bset ?_ (by simp) _ | refine bstep ?_ (by assumption)))) hb7
        have b0 := cell_keep hb7 (show World.cell? _ ⟨w6.heap.size, 0, none⟩ = some (.int .i64 0) by simp [go_sem])
        have b1 := cell_keep hb7 (show World.cell? _ ⟨w6.heap.size, 1, none⟩ = some (.int .i64 rv) by simp [go_sem])
        have zb7 := World.block_lt_of_cell? _ _ b0
        dsimp only at zb7
        clear hb7
        go_wp2_with fail
        refine (HCh.out _ (bstep hW7 (by (repeat (first | exact Below.refl _ _ | assumption | refine Below.drew ?_ | refine balloc ?_ _ | refine bset ?_ (by simp; omega) _ | refine bset ?_ (by simp) _ | refine bstep ?_ (by assumption)))))).mono ?_
        rintro e w8 ⟨rfl, hb8⟩
        have hB8 : Below w2.heap.size w2 w8 := bstep (by (repeat (first | exact Below.refl _ _ | assumption | refine Below.drew ?_ | refine balloc ?_ _ | refine bset ?_ (by simp; omega) _ | refine bset ?_ (by simp) _ | refine bstep ?_ (by assumption)))) hb8
        have hW8 : Below w6.heap.size w6 w8 := bstep (by (repeat (first | exact Below.refl _ _ | assumption | refine Below.drew ?_ | refine balloc ?_ _ | refine bset ?_ (by simp; omega) _ | refine bset ?_ (by simp) _ | refine bstep ?_ (by assumption)))) hb8
        replace b0 := cell_keep hb8 (cell_keep (by (repeat (first | exact Below.refl _ _ | assumption | refine Below.drew ?_ | refine balloc ?_ _ | refine bset ?_ (by simp; omega) _ | refine bset ?_ (by simp) _ | refine bstep ?_ (by assumption)))) b0)
        replace b1 := cell_keep hb8 (cell_keep (by (repeat (first | exact Below.refl _ _ | assumption | refine Below.drew ?_ | refine balloc ?_ _ | refine bset ?_ (by simp; omega) _ | refine bset ?_ (by simp) _ | refine bstep ?_ (by assumption)))) b1)
        have s0 := cell_keep hb8 (show World.cell? _ ⟨w7.heap.size, 0, none⟩ = some (.int .i64 0) by simp [go_sem])
        have s1 := cell_keep hb8 (show World.cell? _ ⟨w7.heap.size, 1, none⟩ = some (.slice ps ns qs) by simp [go_sem])
        have zb8 := World.block_lt_of_cell? _ _ b0
        dsimp only at zb8
        have zs8 := World.block_lt_of_cell? _ _ s0
        dsimp only at zs8
        have HAg : Hid (∀ W, Below w8.heap.size w8 W → Calls Try.prog 10 #[.slice ps ns qs] W fun e w' => e = .returned (.bool true) ∧ Below W.heap.size W w') := fun W hW => HAg0.out W ps qs (sltsR.below hVs (bstep (bstep (balloc (Below.refl _ _) _) hb8) hW))
        clear hb8 hVs
        have HW6 : Hid (hv = 0 ∨ ∃ u, isCh (slotsL r.accs 7 1) u ∧ u.val = hv) := by
          show _ ∨ _
          by_cases h0 : hv = 0
          · exact .inl h0
          · exact .inr (by rw [HHv.out] at h0 ⊢; exact hdV_ch HYs.out h0)
        have HWas : Hid (¬ wv = 0 → hv = wv) := fun h0 => by
          rcases HW.out with h | ⟨u, hu, e⟩
          · exact absurd h h0
          · have h1 := HSt.out u hu
            rw [HHv.out, hdV_is HA6.out HYs.out h1, ← HA6.out.ch_val h1, e]
        have HRv : Hid ((0 : Int) = 0 → rv = hv) := fun h0 => by
          obtain ⟨e, u, hu⟩ := HC0.out (HRc.out.trans h0)
          rw [← HRvv.out, e, HHv.out, hdV_is HA6.out HYs.out hu]
        have hvr : (hv != rv) = false := by rw [HRv.out rfl]; exact bne_self_eq_false _
        clear HC0 HSt HYs HHv HRv
        by_cases hw0 : wv = 0
        · by_cases hv0 : rv = 0
          · have fv : (rv != 0) = false := by simp [hv0]
            clear hv0
            have hwf : (wv != 0) = false := by simp [hw0]
            clear hw0 HWas
            go_wp2_with fail
            refine (HAg.out _ (by (repeat (first | exact Below.refl _ _ | assumption | refine Below.drew ?_ | refine balloc ?_ _ | refine bset ?_ (by simp; omega) _ | refine bset ?_ (by simp) _ | refine bstep ?_ (by assumption))))).mono ?_
            rintro e w9 ⟨rfl, hb9⟩
            have hB9 : Below w2.heap.size w2 w9 := bstep (by (repeat (first | exact Below.refl _ _ | assumption | refine Below.drew ?_ | refine balloc ?_ _ | refine bset ?_ (by simp; omega) _ | refine bset ?_ (by simp) _ | refine bstep ?_ (by assumption)))) hb9
            have HV9 : Hid (accsR.V w9 (.slice a6 n c6) r.accs) := accsR.below HV6.out (bstep (by (repeat (first | exact Below.refl _ _ | assumption | refine Below.drew ?_ | refine balloc ?_ _ | refine bset ?_ (by simp; omega) _ | refine bset ?_ (by simp) _ | refine bstep ?_ (by assumption)))) hb9)
            replace b0 := cell_keep hb9 (cell_keep (by (repeat (first | exact Below.refl _ _ | assumption | refine Below.drew ?_ | refine balloc ?_ _ | refine bset ?_ (by simp; omega) _ | refine bset ?_ (by simp) _ | refine bstep ?_ (by assumption)))) b0)
            replace b1 := cell_keep hb9 (cell_keep (by (repeat (first | exact Below.refl _ _ | assumption | refine Below.drew ?_ | refine balloc ?_ _ | refine bset ?_ (by simp; omega) _ | refine bset ?_ (by simp) _ | refine bstep ?_ (by assumption)))) b1)
            have d0 := cell_keep hb9 (show World.cell? _ ⟨w8.heap.size, 1, none⟩ = some (.int .i64 hv) by simp [go_sem])
            have zb9 := World.block_lt_of_cell? _ _ b0
            dsimp only at zb9
            have zd9 := World.block_lt_of_cell? _ _ d0
            dsimp only at zd9
            clear hb9 HAg
            go_wp2
            exact ⟨⟨k + 1, r.accs, a6, c6, hv, v', by omega, rfl, rfl, by go_num, HV9.out, HL6, HA6, HW6, hB9⟩, by simp [intOf]; omega⟩
          · have fv : (rv != 0) = true := by simp [hv0]
            clear hv0
            have hwf : (wv != 0) = false := by simp [hw0]
            clear hw0 HWas
            go_wp2_with fail
            refine (HAg.out _ (by (repeat (first | exact Below.refl _ _ | assumption | refine Below.drew ?_ | refine balloc ?_ _ | refine bset ?_ (by simp; omega) _ | refine bset ?_ (by simp) _ | refine bstep ?_ (by assumption))))).mono ?_
            rintro e w9 ⟨rfl, hb9⟩
            have hB9 : Below w2.heap.size w2 w9 := bstep (by (repeat (first | exact Below.refl _ _ | assumption | refine Below.drew ?_ | refine balloc ?_ _ | refine bset ?_ (by simp; omega) _ | refine bset ?_ (by simp) _ | refine bstep ?_ (by assumption)))) hb9
            have HV9 : Hid (accsR.V w9 (.slice a6 n c6) r.accs) := accsR.below HV6.out (bstep (by (repeat (first | exact Below.refl _ _ | assumption | refine Below.drew ?_ | refine balloc ?_ _ | refine bset ?_ (by simp; omega) _ | refine bset ?_ (by simp) _ | refine bstep ?_ (by assumption)))) hb9)
            replace b0 := cell_keep hb9 (cell_keep (by (repeat (first | exact Below.refl _ _ | assumption | refine Below.drew ?_ | refine balloc ?_ _ | refine bset ?_ (by simp; omega) _ | refine bset ?_ (by simp) _ | refine bstep ?_ (by assumption)))) b0)
            replace b1 := cell_keep hb9 (cell_keep (by (repeat (first | exact Below.refl _ _ | assumption | refine Below.drew ?_ | refine balloc ?_ _ | refine bset ?_ (by simp; omega) _ | refine bset ?_ (by simp) _ | refine bstep ?_ (by assumption)))) b1)
            have d0 := cell_keep hb9 (show World.cell? _ ⟨w8.heap.size, 1, none⟩ = some (.int .i64 hv) by simp [go_sem])
            have zb9 := World.block_lt_of_cell? _ _ b0
            dsimp only at zb9
            have zd9 := World.block_lt_of_cell? _ _ d0
            dsimp only at zd9
            clear hb9 HAg
            go_wp2
            exact ⟨⟨k + 1, r.accs, a6, c6, hv, v', by omega, rfl, rfl, by go_num, HV9.out, HL6, HA6, HW6, hB9⟩, by simp [intOf]; omega⟩
        · by_cases hv0 : rv = 0
          · have fv : (rv != 0) = false := by simp [hv0]
            clear hv0
            have hwf : (wv != 0) = true := by simp [hw0]
            have hwe := HWas.out hw0
            have hwv : (hv != wv) = false := by simp [hwe]
            clear hw0 HWas hwe
            go_wp2_with fail
            refine (HAg.out _ (by (repeat (first | exact Below.refl _ _ | assumption | refine Below.drew ?_ | refine balloc ?_ _ | refine bset ?_ (by simp; omega) _ | refine bset ?_ (by simp) _ | refine bstep ?_ (by assumption))))).mono ?_
            rintro e w9 ⟨rfl, hb9⟩
            have hB9 : Below w2.heap.size w2 w9 := bstep (by (repeat (first | exact Below.refl _ _ | assumption | refine Below.drew ?_ | refine balloc ?_ _ | refine bset ?_ (by simp; omega) _ | refine bset ?_ (by simp) _ | refine bstep ?_ (by assumption)))) hb9
            have HV9 : Hid (accsR.V w9 (.slice a6 n c6) r.accs) := accsR.below HV6.out (bstep (by (repeat (first | exact Below.refl _ _ | assumption | refine Below.drew ?_ | refine balloc ?_ _ | refine bset ?_ (by simp; omega) _ | refine bset ?_ (by simp) _ | refine bstep ?_ (by assumption)))) hb9)
            replace b0 := cell_keep hb9 (cell_keep (by (repeat (first | exact Below.refl _ _ | assumption | refine Below.drew ?_ | refine balloc ?_ _ | refine bset ?_ (by simp; omega) _ | refine bset ?_ (by simp) _ | refine bstep ?_ (by assumption)))) b0)
            replace b1 := cell_keep hb9 (cell_keep (by (repeat (first | exact Below.refl _ _ | assumption | refine Below.drew ?_ | refine balloc ?_ _ | refine bset ?_ (by simp; omega) _ | refine bset ?_ (by simp) _ | refine bstep ?_ (by assumption)))) b1)
            have d0 := cell_keep hb9 (show World.cell? _ ⟨w8.heap.size, 1, none⟩ = some (.int .i64 hv) by simp [go_sem])
            have zb9 := World.block_lt_of_cell? _ _ b0
            dsimp only at zb9
            have zd9 := World.block_lt_of_cell? _ _ d0
            dsimp only at zd9
            clear hb9 HAg
            go_wp2
            exact ⟨⟨k + 1, r.accs, a6, c6, hv, v', by omega, rfl, rfl, by go_num, HV9.out, HL6, HA6, HW6, hB9⟩, by simp [intOf]; omega⟩
          · have fv : (rv != 0) = true := by simp [hv0]
            clear hv0
            have hwf : (wv != 0) = true := by simp [hw0]
            have hwe := HWas.out hw0
            have hwv : (hv != wv) = false := by simp [hwe]
            clear hw0 HWas hwe
            go_wp2_with fail
            refine (HAg.out _ (by (repeat (first | exact Below.refl _ _ | assumption | refine Below.drew ?_ | refine balloc ?_ _ | refine bset ?_ (by simp; omega) _ | refine bset ?_ (by simp) _ | refine bstep ?_ (by assumption))))).mono ?_
            rintro e w9 ⟨rfl, hb9⟩
            have hB9 : Below w2.heap.size w2 w9 := bstep (by (repeat (first | exact Below.refl _ _ | assumption | refine Below.drew ?_ | refine balloc ?_ _ | refine bset ?_ (by simp; omega) _ | refine bset ?_ (by simp) _ | refine bstep ?_ (by assumption)))) hb9
            have HV9 : Hid (accsR.V w9 (.slice a6 n c6) r.accs) := accsR.below HV6.out (bstep (by (repeat (first | exact Below.refl _ _ | assumption | refine Below.drew ?_ | refine balloc ?_ _ | refine bset ?_ (by simp; omega) _ | refine bset ?_ (by simp) _ | refine bstep ?_ (by assumption)))) hb9)
            replace b0 := cell_keep hb9 (cell_keep (by (repeat (first | exact Below.refl _ _ | assumption | refine Below.drew ?_ | refine balloc ?_ _ | refine bset ?_ (by simp; omega) _ | refine bset ?_ (by simp) _ | refine bstep ?_ (by assumption)))) b0)
            replace b1 := cell_keep hb9 (cell_keep (by (repeat (first | exact Below.refl _ _ | assumption | refine Below.drew ?_ | refine balloc ?_ _ | refine bset ?_ (by simp; omega) _ | refine bset ?_ (by simp) _ | refine bstep ?_ (by assumption)))) b1)
            have d0 := cell_keep hb9 (show World.cell? _ ⟨w8.heap.size, 1, none⟩ = some (.int .i64 hv) by simp [go_sem])
            have zb9 := World.block_lt_of_cell? _ _ b0
            dsimp only at zb9
            have zd9 := World.block_lt_of_cell? _ _ d0
            dsimp only at zd9
            clear hb9 HAg
            go_wp2
            exact ⟨⟨k + 1, r.accs, a6, c6, hv, v', by omega, rfl, rfl, by go_num, HV9.out, HL6, HA6, HW6, hB9⟩, by simp [intOf]; omega⟩
      · subst hrcx
        go_wp2_with fail
        refine (HSl.out _ (by (repeat (first | exact Below.refl _ _ | assumption | refine Below.drew ?_ | refine balloc ?_ _ | refine bset ?_ (by simp; omega) _ | refine bset ?_ (by simp) _ | refine bstep ?_ (by assumption))))).mono ?_
        rintro e w7 ⟨ps, qs, rfl, hVs, hb7⟩
        have hB7 : Below w2.heap.size w2 w7 := bstep (by (repeat (first | exact Below.refl _ _ | assumption | refine Below.drew ?_ | refine balloc ?_ _ | refine bset ?_ (by simp; omega) _ | refine bset ?_ (by simp) _ | refine bstep ?_ (by assumption)))) hb7
        have hW7 : Below w6.heap.size w6 w7 := bstep (by (repeat (first | exact Below.refl _ _ | assumption | refine Below.drew ?_ | refine balloc ?_ _ | refine bset ?_ (by simp; omega) _ | refine bset ?_ (by simp) _ | refine bstep ?_ (by assumption)))) hb7
        have b0 := cell_keep hb7 (show World.cell? _ ⟨w6.heap.size, 0, none⟩ = some (.int .i64 4) by simp [go_sem])
        have b1 := cell_keep hb7 (show World.cell? _ ⟨w6.heap.size, 1, none⟩ = some (.int .i64 rv) by simp [go_sem])
        have zb7 := World.block_lt_of_cell? _ _ b0
        dsimp only at zb7
        clear hb7
        go_wp2_with fail
        refine (HCh.out _ (bstep hW7 (by (repeat (first | exact Below.refl _ _ | assumption | refine Below.drew ?_ | refine balloc ?_ _ | refine bset ?_ (by simp; omega) _ | refine bset ?_ (by simp) _ | refine bstep ?_ (by assumption)))))).mono ?_
        rintro e w8 ⟨rfl, hb8⟩
        have hB8 : Below w2.heap.size w2 w8 := bstep (by (repeat (first | exact Below.refl _ _ | assumption | refine Below.drew ?_ | refine balloc ?_ _ | refine bset ?_ (by simp; omega) _ | refine bset ?_ (by simp) _ | refine bstep ?_ (by assumption)))) hb8
        have hW8 : Below w6.heap.size w6 w8 := bstep (by (repeat (first | exact Below.refl _ _ | assumption | refine Below.drew ?_ | refine balloc ?_ _ | refine bset ?_ (by simp; omega) _ | refine bset ?_ (by simp) _ | refine bstep ?_ (by assumption)))) hb8
        replace b0 := cell_keep hb8 (cell_keep (by (repeat (first | exact Below.refl _ _ | assumption | refine Below.drew ?_ | refine balloc ?_ _ | refine bset ?_ (by simp; omega) _ | refine bset ?_ (by simp) _ | refine bstep ?_ (by assumption)))) b0)
        replace b1 := cell_keep hb8 (cell_keep (by (repeat (first | exact Below.refl _ _ | assumption | refine Below.drew ?_ | refine balloc ?_ _ | refine bset ?_ (by simp; omega) _ | refine bset ?_ (by simp) _ | refine bstep ?_ (by assumption)))) b1)
        have s0 := cell_keep hb8 (show World.cell? _ ⟨w7.heap.size, 0, none⟩ = some (.int .i64 0) by simp [go_sem])
        have s1 := cell_keep hb8 (show World.cell? _ ⟨w7.heap.size, 1, none⟩ = some (.slice ps ns qs) by simp [go_sem])
        have zb8 := World.block_lt_of_cell? _ _ b0
        dsimp only at zb8
        have zs8 := World.block_lt_of_cell? _ _ s0
        dsimp only at zs8
        have HAg : Hid (∀ W, Below w8.heap.size w8 W → Calls Try.prog 10 #[.slice ps ns qs] W fun e w' => e = .returned (.bool true) ∧ Below W.heap.size W w') := fun W hW => HAg0.out W ps qs (sltsR.below hVs (bstep (bstep (balloc (Below.refl _ _) _) hb8) hW))
        clear hb8 hVs
        have HW6 : Hid (hv = 0 ∨ ∃ u, isCh (slotsL r.accs 7 1) u ∧ u.val = hv) := by
          show _ ∨ _
          by_cases h0 : hv = 0
          · exact .inl h0
          · exact .inr (by rw [HHv.out] at h0 ⊢; exact hdV_ch HYs.out h0)
        have HWas : Hid (¬ wv = 0 → hv = wv) := fun h0 => by
          rcases HW.out with h | ⟨u, hu, e⟩
          · exact absurd h h0
          · have h1 := HSt.out u hu
            rw [HHv.out, hdV_is HA6.out HYs.out h1, ← HA6.out.ch_val h1, e]
        have HRv : Hid ((4 : Int) = 0 → rv = hv) := fun h0 => by
          obtain ⟨e, u, hu⟩ := HC0.out (HRc.out.trans h0)
          rw [← HRvv.out, e, HHv.out, hdV_is HA6.out HYs.out hu]
        clear HC0 HSt HYs HHv HRv
        by_cases hw0 : wv = 0
        · by_cases hv0 : rv = 0
          · have fv : (rv != 0) = false := by simp [hv0]
            clear hv0
            have hwf : (wv != 0) = false := by simp [hw0]
            clear hw0 HWas
            go_wp2_with fail
            refine (HAg.out _ (by (repeat (first | exact Below.refl _ _ | assumption | refine Below.drew ?_ | refine balloc ?_ _ | refine bset ?_ (by simp; omega) _ | refine bset ?_ (by simp) _ | refine bstep ?_ (by assumption))))).mono ?_
            rintro e w9 ⟨rfl, hb9⟩
            have hB9 : Below w2.heap.size w2 w9 := bstep (by (repeat (first | exact Below.refl _ _ | assumption | refine Below.drew ?_ | refine balloc ?_ _ | refine bset ?_ (by simp; omega) _ | refine bset ?_ (by simp) _ | refine bstep ?_ (by assumption)))) hb9
            have HV9 : Hid (accsR.V w9 (.slice a6 n c6) r.accs) := accsR.below HV6.out (bstep (by (repeat (first | exact Below.refl _ _ | assumption | refine Below.drew ?_ | refine balloc ?_ _ | refine bset ?_ (by simp; omega) _ | refine bset ?_ (by simp) _ | refine bstep ?_ (by assumption)))) hb9)
            replace b0 := cell_keep hb9 (cell_keep (by (repeat (first | exact Below.refl _ _ | assumption | refine Below.drew ?_ | refine balloc ?_ _ | refine bset ?_ (by simp; omega) _ | refine bset ?_ (by simp) _ | refine bstep ?_ (by assumption)))) b0)
            replace b1 := cell_keep hb9 (cell_keep (by (repeat (first | exact Below.refl _ _ | assumption | refine Below.drew ?_ | refine balloc ?_ _ | refine bset ?_ (by simp; omega) _ | refine bset ?_ (by simp) _ | refine bstep ?_ (by assumption)))) b1)
            have d0 := cell_keep hb9 (show World.cell? _ ⟨w8.heap.size, 1, none⟩ = some (.int .i64 hv) by simp [go_sem])
            have zb9 := World.block_lt_of_cell? _ _ b0
            dsimp only at zb9
            have zd9 := World.block_lt_of_cell? _ _ d0
            dsimp only at zd9
            clear hb9 HAg
            go_wp2
            exact ⟨⟨k + 1, r.accs, a6, c6, hv, v', by omega, rfl, rfl, by go_num, HV9.out, HL6, HA6, HW6, hB9⟩, by simp [intOf]; omega⟩
          · have fv : (rv != 0) = true := by simp [hv0]
            clear hv0
            have hwf : (wv != 0) = false := by simp [hw0]
            clear hw0 HWas
            go_wp2_with fail
            refine (HAg.out _ (by (repeat (first | exact Below.refl _ _ | assumption | refine Below.drew ?_ | refine balloc ?_ _ | refine bset ?_ (by simp; omega) _ | refine bset ?_ (by simp) _ | refine bstep ?_ (by assumption))))).mono ?_
            rintro e w9 ⟨rfl, hb9⟩
            have hB9 : Below w2.heap.size w2 w9 := bstep (by (repeat (first | exact Below.refl _ _ | assumption | refine Below.drew ?_ | refine balloc ?_ _ | refine bset ?_ (by simp; omega) _ | refine bset ?_ (by simp) _ | refine bstep ?_ (by assumption)))) hb9
            have HV9 : Hid (accsR.V w9 (.slice a6 n c6) r.accs) := accsR.below HV6.out (bstep (by (repeat (first | exact Below.refl _ _ | assumption | refine Below.drew ?_ | refine balloc ?_ _ | refine bset ?_ (by simp; omega) _ | refine bset ?_ (by simp) _ | refine bstep ?_ (by assumption)))) hb9)
            replace b0 := cell_keep hb9 (cell_keep (by (repeat (first | exact Below.refl _ _ | assumption | refine Below.drew ?_ | refine balloc ?_ _ | refine bset ?_ (by simp; omega) _ | refine bset ?_ (by simp) _ | refine bstep ?_ (by assumption)))) b0)
            replace b1 := cell_keep hb9 (cell_keep (by (repeat (first | exact Below.refl _ _ | assumption | refine Below.drew ?_ | refine balloc ?_ _ | refine bset ?_ (by simp; omega) _ | refine bset ?_ (by simp) _ | refine bstep ?_ (by assumption)))) b1)
            have d0 := cell_keep hb9 (show World.cell? _ ⟨w8.heap.size, 1, none⟩ = some (.int .i64 hv) by simp [go_sem])
            have zb9 := World.block_lt_of_cell? _ _ b0
            dsimp only at zb9
            have zd9 := World.block_lt_of_cell? _ _ d0
            dsimp only at zd9
            clear hb9 HAg
            go_wp2
            exact ⟨⟨k + 1, r.accs, a6, c6, hv, v', by omega, rfl, rfl, by go_num, HV9.out, HL6, HA6, HW6, hB9⟩, by simp [intOf]; omega⟩
        · by_cases hv0 : rv = 0
          · have fv : (rv != 0) = false := by simp [hv0]
            clear hv0
            have hwf : (wv != 0) = true := by simp [hw0]
            have hwe := HWas.out hw0
            have hwv : (hv != wv) = false := by simp [hwe]
            clear hw0 HWas hwe
            go_wp2_with fail
            refine (HAg.out _ (by (repeat (first | exact Below.refl _ _ | assumption | refine Below.drew ?_ | refine balloc ?_ _ | refine bset ?_ (by simp; omega) _ | refine bset ?_ (by simp) _ | refine bstep ?_ (by assumption))))).mono ?_
            rintro e w9 ⟨rfl, hb9⟩
            have hB9 : Below w2.heap.size w2 w9 := bstep (by (repeat (first | exact Below.refl _ _ | assumption | refine Below.drew ?_ | refine balloc ?_ _ | refine bset ?_ (by simp; omega) _ | refine bset ?_ (by simp) _ | refine bstep ?_ (by assumption)))) hb9
            have HV9 : Hid (accsR.V w9 (.slice a6 n c6) r.accs) := accsR.below HV6.out (bstep (by (repeat (first | exact Below.refl _ _ | assumption | refine Below.drew ?_ | refine balloc ?_ _ | refine bset ?_ (by simp; omega) _ | refine bset ?_ (by simp) _ | refine bstep ?_ (by assumption)))) hb9)
            replace b0 := cell_keep hb9 (cell_keep (by (repeat (first | exact Below.refl _ _ | assumption | refine Below.drew ?_ | refine balloc ?_ _ | refine bset ?_ (by simp; omega) _ | refine bset ?_ (by simp) _ | refine bstep ?_ (by assumption)))) b0)
            replace b1 := cell_keep hb9 (cell_keep (by (repeat (first | exact Below.refl _ _ | assumption | refine Below.drew ?_ | refine balloc ?_ _ | refine bset ?_ (by simp; omega) _ | refine bset ?_ (by simp) _ | refine bstep ?_ (by assumption)))) b1)
            have d0 := cell_keep hb9 (show World.cell? _ ⟨w8.heap.size, 1, none⟩ = some (.int .i64 hv) by simp [go_sem])
            have zb9 := World.block_lt_of_cell? _ _ b0
            dsimp only at zb9
            have zd9 := World.block_lt_of_cell? _ _ d0
            dsimp only at zd9
            clear hb9 HAg
            go_wp2
            exact ⟨⟨k + 1, r.accs, a6, c6, hv, v', by omega, rfl, rfl, by go_num, HV9.out, HL6, HA6, HW6, hB9⟩, by simp [intOf]; omega⟩
          · have fv : (rv != 0) = true := by simp [hv0]
            clear hv0
            have hwf : (wv != 0) = true := by simp [hw0]
            have hwe := HWas.out hw0
            have hwv : (hv != wv) = false := by simp [hwe]
            clear hw0 HWas hwe
            go_wp2_with fail
            refine (HAg.out _ (by (repeat (first | exact Below.refl _ _ | assumption | refine Below.drew ?_ | refine balloc ?_ _ | refine bset ?_ (by simp; omega) _ | refine bset ?_ (by simp) _ | refine bstep ?_ (by assumption))))).mono ?_
            rintro e w9 ⟨rfl, hb9⟩
            have hB9 : Below w2.heap.size w2 w9 := bstep (by (repeat (first | exact Below.refl _ _ | assumption | refine Below.drew ?_ | refine balloc ?_ _ | refine bset ?_ (by simp; omega) _ | refine bset ?_ (by simp) _ | refine bstep ?_ (by assumption)))) hb9
            have HV9 : Hid (accsR.V w9 (.slice a6 n c6) r.accs) := accsR.below HV6.out (bstep (by (repeat (first | exact Below.refl _ _ | assumption | refine Below.drew ?_ | refine balloc ?_ _ | refine bset ?_ (by simp; omega) _ | refine bset ?_ (by simp) _ | refine bstep ?_ (by assumption)))) hb9)
            replace b0 := cell_keep hb9 (cell_keep (by (repeat (first | exact Below.refl _ _ | assumption | refine Below.drew ?_ | refine balloc ?_ _ | refine bset ?_ (by simp; omega) _ | refine bset ?_ (by simp) _ | refine bstep ?_ (by assumption)))) b0)
            replace b1 := cell_keep hb9 (cell_keep (by (repeat (first | exact Below.refl _ _ | assumption | refine Below.drew ?_ | refine balloc ?_ _ | refine bset ?_ (by simp; omega) _ | refine bset ?_ (by simp) _ | refine bstep ?_ (by assumption)))) b1)
            have d0 := cell_keep hb9 (show World.cell? _ ⟨w8.heap.size, 1, none⟩ = some (.int .i64 hv) by simp [go_sem])
            have zb9 := World.block_lt_of_cell? _ _ b0
            dsimp only at zb9
            have zd9 := World.block_lt_of_cell? _ _ d0
            dsimp only at zd9
            clear hb9 HAg
            go_wp2
            exact ⟨⟨k + 1, r.accs, a6, c6, hv, v', by omega, rfl, rfl, by go_num, HV9.out, HL6, HA6, HW6, hB9⟩, by simp [intOf]; omega⟩
    · have hkm : k = 12 := by omega
      subst hkm
      obtain ⟨v', hcode, hval, hlen, hag, hex, hwas⟩ := run_last HA.out HL.out HN5.out
      have hval' : ∀ u, isCh (slotsL l 7 1) u → u.val = (runD l (allR n) 7 1 500 2).value := fun u hu => by rw [hval]; exact hwas u hu
      have HWa : Hid (wv = 0 ∨ (runD l (allR n) 7 1 500 2).value = wv) := by
        rcases HW.out with h | ⟨u, hu, e⟩
        · exact .inl h
        · exact .inr (by rw [← hval' u hu, e])
      obtain ⟨hrch, hRl⟩ := allR_rch HN5.out
      obtain ⟨w3, hw3⟩ : ∃ w3, w3 = wr.alloc (.cells #[.int .i64 0, .int .i64 1, .int .i64 2, .int .i64 3, .int .i64 4] 2) := ⟨_, rfl⟩
      have hb3 : Below wr.heap.size wr w3 := by rw [hw3]; exact balloc (Below.refl _ _) _
      have hIV : IntsV w3 (.slice (some ⟨wr.heap.size, 0, none⟩) n 5) (allR n) := by
        refine ⟨some ⟨wr.heap.size, 0, none⟩, 5, by rw [hRl], by rw [hRl]; omega, by decide, fun i hi => ⟨wr.heap.size, 0, rfl, ?_⟩⟩
        rw [hw3]
        rw [hRl] at hi
        have hi5 : i < 5 := by omega
        have e : (allR n).getD i 0 = ([0, 1, 2, 3, 4] : List Int).getD i 0 := by
          unfold allR
          simp [List.getD, List.getElem?_take, hi]
        rw [e]
        match i, hi5 with
        | 0, _ => simp [go_sem]
        | 1, _ => simp [go_sem]
        | 2, _ => simp [go_sem]
        | 3, _ => simp [go_sem]
        | 4, _ => simp [go_sem]
      have HRun : Hid (Calls Try.prog 6 #[.slice av n cv, .slice (some ⟨wr.heap.size, 0, none⟩) n 5, .int .i64 7, .int .i64 1, .int .i64 500, .int .i64 2] w3 (RunE (runD l (allR n) 7 1 500 2) w3)) := by
        have h := implRun_u (.slice av n cv) (.slice (some ⟨wr.heap.size, 0, none⟩) n 5) l (allR n) 7 1 500 2 w3 (accsR.below HV.out hb3) hIV
        exact h
      obtain ⟨r, hr⟩ : ∃ r, r = runD l (allR n) 7 1 500 2 := ⟨_, rfl⟩
      rw [← hr] at hcode hval hlen hag hex HWa HRun
      clear hr hwas hval' hIV
      have hn1 : (n : Int) ≤ 5 := by omega
      have hn0 : (0 : Int) ≤ n := by omega
      have hB3 : Below w.heap.size w w3 := bstep hBr hb3
      clear hb3
      go_wp2_with fail
      rw [← hw3]
      clear hw3
      refine HRun.out.mono ?_
      rintro e w4 ⟨v4, F4, rfl, o4, hb4⟩
      obtain ⟨u4, G4, rfl, o4', _⟩ := o4
      obtain ⟨a4, c4, rfl⟩ := accs_form (accsR.ofO o4')
      rw [hlen] at o4' ⊢
      have HV4 : Hid (accsR.V w4 (.slice a4 n c4) r.accs) := accsR.ofO o4'
      have hB4 : Below w.heap.size w w4 := bstep hB3 hb4
      obtain ⟨ys, hys0⟩ := chs_exL r.accs 7 1
      have hfre : freC r.accs 7 1 = 0 := by unfold freC; rw [if_pos (listF_ok hag.ok)]; rfl
      obtain ⟨u, hu⟩ := hex
      have hhv : hdV ys = r.value := by rw [hdV_is hag (hys0 hfre) hu, hval]
      obtain ⟨cc, hcc'⟩ : ∃ cc, cc = chC r.accs 7 1 ys := ⟨_, rfl⟩
      have HCh0 : Hid (∀ W, Below w4.heap.size w4 W → Calls Try.prog 9 #[.slice a4 n c4, .int .i64 7, .int .i64 1] W fun e w' => e = .returned (.agg #[.int .i64 cc, .int .i64 r.value]) ∧ Below W.heap.size W w') := fun W hW => by
        have h := implChosenAt_any sortsV (.slice a4 n c4) r.accs 7 1 ys W (accsR.below HV4.out hW) hys0
        have e : chR r.accs 7 1 ys = r.value := by unfold chR; rw [if_pos hfre, hhv]
        rw [e, ← hcc'] at h
        exact h
      rw [hcode]
      obtain ⟨rv, hrv⟩ : ∃ rv, rv = r.value := ⟨_, rfl⟩
      rw [← hrv] at HCh0 HWa ⊢
      have HCh := HCh0
      have hfv : ∀ W, (Instr.field 36 (.agg #[.int .i64 cc, .int .i64 rv]) 1).run Try.prog W = .ok (.int .i64 rv) W := fun W => valField cc rv W
      have hbb : (rv == rv) = true := beq_self_eq_true rv
      clear hrv HCh0 hcc' hhv hu hfre hys0 o4' hb4 hcode hval hlen hag hrch hRl HRun hB3
      by_cases hw0 : wv = 0
      · have fw : (wv == 0) = true := by simp [hw0]
        clear hw0 HWa
        go_wp2
        refine wp_region_noPanic ?_
        refine region_upto (fun W => Below w4.heap.size w4 W ∧ W.cell? ⟨w4.heap.size, 0, none⟩ = some (.int .i64 0) ∧ W.cell? ⟨w4.heap.size, 1, none⟩ = some (.int .i64 rv) ∧ W.cell? ⟨w4.heap.size, 2, none⟩ = some (.slice a4 n c4)) 23 (by kernel_rfl) ⟨by (repeat (first | exact Below.refl _ _ | assumption | refine Below.drew ?_ | refine balloc ?_ _ | refine bset ?_ (by simp; omega) _ | refine bset ?_ (by simp) _ | refine bstep ?_ (by assumption))), by simp [go_sem], by simp [go_sem], by simp [go_sem]⟩ (fun hS => ?_)
        refine upto_takeN (i := 0) (v := ?_) rfl (by kernel_rfl) (by kernel_rfl) (by kernel_rfl) (by kernel_rfl) (fun _ _ _ h => h) (by rfl) hS ?_ ?_
        rotate_left
        · intro wS hSw
          try dsimp only at hSw
          first | (go_simp; done) | (go_simp; with_reducible rfl)
        try simp only [Act.put, List.getElem_toArray, List.getElem_cons_zero, List.getElem_cons_succ, List.setIfInBounds_toArray, List.set_cons_zero, List.set_cons_succ]
        refine upto_takeN (i := 1) (v := ?_) rfl (by kernel_rfl) (by kernel_rfl) (by kernel_rfl) (by kernel_rfl) (fun _ _ _ h => h) (by rfl) hS ?_ ?_
        rotate_left
        · intro wS hSw
          try dsimp only at hSw
          first | (go_simp; done) | (go_simp; with_reducible rfl)
        try simp only [Act.put, List.getElem_toArray, List.getElem_cons_zero, List.getElem_cons_succ, List.setIfInBounds_toArray, List.set_cons_zero, List.set_cons_succ]
        refine upto_takeN (i := 2) (v := (.bool true)) rfl (by kernel_rfl) (by kernel_rfl) (by kernel_rfl) (by kernel_rfl) (fun _ _ _ h => h) (by rfl) hS ?_ ?_
        · intro wS hSw
          try dsimp only at hSw
          go_simp
        try simp only [Act.put, List.getElem_toArray, List.getElem_cons_zero, List.getElem_cons_succ, List.setIfInBounds_toArray, List.set_cons_zero, List.set_cons_succ]
        refine upto_takeN (i := 3) (v := (.bool true)) rfl (by kernel_rfl) (by kernel_rfl) (by kernel_rfl) (by kernel_rfl) (fun _ _ _ h => h) (by rfl) hS ?_ ?_
        · intro wS hSw
          try dsimp only at hSw
          go_simp
        try simp only [Act.put, List.getElem_toArray, List.getElem_cons_zero, List.getElem_cons_succ, List.setIfInBounds_toArray, List.set_cons_zero, List.set_cons_succ]
        refine upto_takeN (i := 4) (v := ?_) rfl (by kernel_rfl) (by kernel_rfl) (by kernel_rfl) (by kernel_rfl) (fun _ _ _ h => h) (by rfl) hS ?_ ?_
        rotate_left
        · intro wS hSw
          try dsimp only at hSw
          first | (go_simp; done) | (go_simp; with_reducible rfl)
        try simp only [Act.put, List.getElem_toArray, List.getElem_cons_zero, List.getElem_cons_succ, List.setIfInBounds_toArray, List.set_cons_zero, List.set_cons_succ]
        refine upto_takeN (i := 5) (v := ?_) rfl (by kernel_rfl) (by kernel_rfl) (by kernel_rfl) (by kernel_rfl) (fun _ _ _ h => h) (by rfl) hS ?_ ?_
        rotate_left
        · intro wS hSw
          try dsimp only at hSw
          first | (go_simp; done) | (go_simp; with_reducible rfl)
        try simp only [Act.put, List.getElem_toArray, List.getElem_cons_zero, List.getElem_cons_succ, List.setIfInBounds_toArray, List.set_cons_zero, List.set_cons_succ]
        refine upto_takeN (i := 8) (v := ?_) rfl (by kernel_rfl) (by kernel_rfl) (by kernel_rfl) (by kernel_rfl) (fun _ _ _ h => h) (by rfl) hS ?_ ?_
        rotate_left
        · intro wS hSw
          try dsimp only at hSw
          first | (go_simp; done) | (go_simp; with_reducible rfl)
        try simp only [Act.put, List.getElem_toArray, List.getElem_cons_zero, List.getElem_cons_succ, List.setIfInBounds_toArray, List.set_cons_zero, List.set_cons_succ]
        refine upto_takeN (i := 9) (v := ?_) rfl (by kernel_rfl) (by kernel_rfl) (by kernel_rfl) (by kernel_rfl) (fun _ _ _ h => h) (by rfl) hS ?_ ?_
        rotate_left
        · intro wS hSw
          try dsimp only at hSw
          first | (go_simp; done) | (go_simp; with_reducible rfl)
        try simp only [Act.put, List.getElem_toArray, List.getElem_cons_zero, List.getElem_cons_succ, List.setIfInBounds_toArray, List.set_cons_zero, List.set_cons_succ]
        refine upto_step (i := 6) (by kernel_rfl) rfl ?_
        intro K hK
        go_simp
        refine (HCh.out _ hS.1).mono ?_
        rintro e w5 ⟨rfl, hb5⟩
        have hS5 : (fun W => Below w4.heap.size w4 W ∧ W.cell? ⟨w4.heap.size, 0, none⟩ = some (.int .i64 0) ∧ W.cell? ⟨w4.heap.size, 1, none⟩ = some (.int .i64 rv) ∧ W.cell? ⟨w4.heap.size, 2, none⟩ = some (.slice a4 n c4)) w5 := ⟨bstep hS.1 hb5, cell_keep hb5 hS.2.1, cell_keep hb5 hS.2.2.1, cell_keep hb5 hS.2.2.2⟩
        refine hK _ _ (fun _ => hS5) ?_
        clear hK K hb5 hS
        try simp only [Act.put, List.getElem_toArray, List.getElem_cons_zero, List.getElem_cons_succ, List.setIfInBounds_toArray, List.set_cons_zero, List.set_cons_succ]
        refine upto_takeN (i := 7) (v := (.int .i64 rv)) rfl (by kernel_rfl) (by kernel_rfl) (by kernel_rfl) (by kernel_rfl) (fun _ _ _ h => h) (by rfl) hS5 ?_ ?_
        · intro wS hSw
          try dsimp only at hSw
          go_simp
        try simp only [Act.put, List.getElem_toArray, List.getElem_cons_zero, List.getElem_cons_succ, List.setIfInBounds_toArray, List.set_cons_zero, List.set_cons_succ]
        refine upto_takeN (i := 10) (v := (.bool true)) rfl (by kernel_rfl) (by kernel_rfl) (by kernel_rfl) (by kernel_rfl) (fun _ _ _ h => h) (by rfl) hS5 ?_ ?_
        · intro wS hSw
          try dsimp only at hSw
          go_simp
        try simp only [Act.put, List.getElem_toArray, List.getElem_cons_zero, List.getElem_cons_succ, List.setIfInBounds_toArray, List.set_cons_zero, List.set_cons_succ]
        refine upto_takeN (i := 11) (v := (.bool true)) rfl (by kernel_rfl) (by kernel_rfl) (by kernel_rfl) (by kernel_rfl) (fun _ _ _ h => h) (by rfl) hS5 ?_ ?_
        · intro wS hSw
          try dsimp only at hSw
          go_simp
        try simp only [Act.put, List.getElem_toArray, List.getElem_cons_zero, List.getElem_cons_succ, List.setIfInBounds_toArray, List.set_cons_zero, List.set_cons_succ]
        refine upto_takeN (i := 12) (v := (.bool true)) rfl (by kernel_rfl) (by kernel_rfl) (by kernel_rfl) (by kernel_rfl) (fun _ _ _ h => h) (by rfl) hS5 ?_ ?_
        · intro wS hSw
          try dsimp only at hSw
          go_simp
        try simp only [Act.put, List.getElem_toArray, List.getElem_cons_zero, List.getElem_cons_succ, List.setIfInBounds_toArray, List.set_cons_zero, List.set_cons_succ]
        refine upto_takeN (i := 13) (v := ?_) rfl (by kernel_rfl) (by kernel_rfl) (by kernel_rfl) (by kernel_rfl) (fun _ _ _ h => h) (by rfl) hS5 ?_ ?_
        rotate_left
        · intro wS hSw
          try dsimp only at hSw
          first | (go_simp; done) | (go_simp; with_reducible rfl)
        try simp only [Act.put, List.getElem_toArray, List.getElem_cons_zero, List.getElem_cons_succ, List.setIfInBounds_toArray, List.set_cons_zero, List.set_cons_succ]
        refine upto_takeN (i := 14) (v := (.bool true)) rfl (by kernel_rfl) (by kernel_rfl) (by kernel_rfl) (by kernel_rfl) (fun _ _ _ h => h) (by rfl) hS5 ?_ ?_
        · intro wS hSw
          try dsimp only at hSw
          go_simp
        try simp only [Act.put, List.getElem_toArray, List.getElem_cons_zero, List.getElem_cons_succ, List.setIfInBounds_toArray, List.set_cons_zero, List.set_cons_succ]
        refine upto_takeN (i := 15) (v := (.bool true)) rfl (by kernel_rfl) (by kernel_rfl) (by kernel_rfl) (by kernel_rfl) (fun _ _ _ h => h) (by rfl) hS5 ?_ ?_
        · intro wS hSw
          try dsimp only at hSw
          go_simp
        try simp only [Act.put, List.getElem_toArray, List.getElem_cons_zero, List.getElem_cons_succ, List.setIfInBounds_toArray, List.set_cons_zero, List.set_cons_succ]
        refine upto_skipU (i := 16) rfl (by kernel_rfl) (by kernel_rfl) (by kernel_rfl) (by kernel_rfl) (fun _ _ _ h => h) (by rfl) hS5 ?_
        try simp only [Act.put, List.getElem_toArray, List.getElem_cons_zero, List.getElem_cons_succ, List.setIfInBounds_toArray, List.set_cons_zero, List.set_cons_succ]
        refine upto_skipU (i := 17) rfl (by kernel_rfl) (by kernel_rfl) (by kernel_rfl) (by kernel_rfl) (fun _ _ _ h => h) (by rfl) hS5 ?_
        try simp only [Act.put, List.getElem_toArray, List.getElem_cons_zero, List.getElem_cons_succ, List.setIfInBounds_toArray, List.set_cons_zero, List.set_cons_succ]
        refine upto_skipU (i := 18) rfl (by kernel_rfl) (by kernel_rfl) (by kernel_rfl) (by kernel_rfl) (fun _ _ _ h => h) (by rfl) hS5 ?_
        try simp only [Act.put, List.getElem_toArray, List.getElem_cons_zero, List.getElem_cons_succ, List.setIfInBounds_toArray, List.set_cons_zero, List.set_cons_succ]
        refine upto_skipU (i := 19) rfl (by kernel_rfl) (by kernel_rfl) (by kernel_rfl) (by kernel_rfl) (fun _ _ _ h => h) (by rfl) hS5 ?_
        try simp only [Act.put, List.getElem_toArray, List.getElem_cons_zero, List.getElem_cons_succ, List.setIfInBounds_toArray, List.set_cons_zero, List.set_cons_succ]
        refine upto_takeN (i := 20) (v := (.bool true)) rfl (by kernel_rfl) (by kernel_rfl) (by kernel_rfl) (by kernel_rfl) (fun _ _ _ h => h) (by rfl) hS5 ?_ ?_
        · intro wS hSw
          try dsimp only at hSw
          go_simp
        try simp only [Act.put, List.getElem_toArray, List.getElem_cons_zero, List.getElem_cons_succ, List.setIfInBounds_toArray, List.set_cons_zero, List.set_cons_succ]
        refine upto_takeN (i := 21) (v := (.bool true)) rfl (by kernel_rfl) (by kernel_rfl) (by kernel_rfl) (by kernel_rfl) (fun _ _ _ h => h) (by rfl) hS5 ?_ ?_
        · intro wS hSw
          try dsimp only at hSw
          go_simp
        try simp only [Act.put, List.getElem_toArray, List.getElem_cons_zero, List.getElem_cons_succ, List.setIfInBounds_toArray, List.set_cons_zero, List.set_cons_succ]
        refine upto_takeN (i := 22) (v := (.bool true)) rfl (by kernel_rfl) (by kernel_rfl) (by kernel_rfl) (by kernel_rfl) (fun _ _ _ h => h) (by rfl) hS5 ?_ ?_
        · intro wS hSw
          try dsimp only at hSw
          go_simp
        try simp only [Act.put, List.getElem_toArray, List.getElem_cons_zero, List.getElem_cons_succ, List.setIfInBounds_toArray, List.set_cons_zero, List.set_cons_succ]
        refine upto_done (by kernel_rfl) ?_
        refine NoPanic.normal ?_
        have hB5 := hS5.1
        clear hS5
        go_wp2
        go_ret
        exact ⟨rfl, bstep hB4 hB5⟩
      · have fw : (wv == 0) = false := by simp [hw0]
        have fe : (rv == wv) = true := by
          rcases HWa.out with h | h
          · exact absurd h hw0
          · simp [h]
        clear hw0 HWa
        go_wp2
        refine wp_region_noPanic ?_
        refine region_upto (fun W => Below w4.heap.size w4 W ∧ W.cell? ⟨w4.heap.size, 0, none⟩ = some (.int .i64 0) ∧ W.cell? ⟨w4.heap.size, 1, none⟩ = some (.int .i64 rv) ∧ W.cell? ⟨w4.heap.size, 2, none⟩ = some (.slice a4 n c4)) 23 (by kernel_rfl) ⟨by (repeat (first | exact Below.refl _ _ | assumption | refine Below.drew ?_ | refine balloc ?_ _ | refine bset ?_ (by simp; omega) _ | refine bset ?_ (by simp) _ | refine bstep ?_ (by assumption))), by simp [go_sem], by simp [go_sem], by simp [go_sem]⟩ (fun hS => ?_)
        refine upto_takeN (i := 0) (v := ?_) rfl (by kernel_rfl) (by kernel_rfl) (by kernel_rfl) (by kernel_rfl) (fun _ _ _ h => h) (by rfl) hS ?_ ?_
        rotate_left
        · intro wS hSw
          try dsimp only at hSw
          first | (go_simp; done) | (go_simp; with_reducible rfl)
        try simp only [Act.put, List.getElem_toArray, List.getElem_cons_zero, List.getElem_cons_succ, List.setIfInBounds_toArray, List.set_cons_zero, List.set_cons_succ]
        refine upto_takeN (i := 1) (v := ?_) rfl (by kernel_rfl) (by kernel_rfl) (by kernel_rfl) (by kernel_rfl) (fun _ _ _ h => h) (by rfl) hS ?_ ?_
        rotate_left
        · intro wS hSw
          try dsimp only at hSw
          first | (go_simp; done) | (go_simp; with_reducible rfl)
        try simp only [Act.put, List.getElem_toArray, List.getElem_cons_zero, List.getElem_cons_succ, List.setIfInBounds_toArray, List.set_cons_zero, List.set_cons_succ]
        refine upto_takeN (i := 2) (v := (.bool true)) rfl (by kernel_rfl) (by kernel_rfl) (by kernel_rfl) (by kernel_rfl) (fun _ _ _ h => h) (by rfl) hS ?_ ?_
        · intro wS hSw
          try dsimp only at hSw
          go_simp
        try simp only [Act.put, List.getElem_toArray, List.getElem_cons_zero, List.getElem_cons_succ, List.setIfInBounds_toArray, List.set_cons_zero, List.set_cons_succ]
        refine upto_takeN (i := 3) (v := (.bool true)) rfl (by kernel_rfl) (by kernel_rfl) (by kernel_rfl) (by kernel_rfl) (fun _ _ _ h => h) (by rfl) hS ?_ ?_
        · intro wS hSw
          try dsimp only at hSw
          go_simp
        try simp only [Act.put, List.getElem_toArray, List.getElem_cons_zero, List.getElem_cons_succ, List.setIfInBounds_toArray, List.set_cons_zero, List.set_cons_succ]
        refine upto_takeN (i := 4) (v := ?_) rfl (by kernel_rfl) (by kernel_rfl) (by kernel_rfl) (by kernel_rfl) (fun _ _ _ h => h) (by rfl) hS ?_ ?_
        rotate_left
        · intro wS hSw
          try dsimp only at hSw
          first | (go_simp; done) | (go_simp; with_reducible rfl)
        try simp only [Act.put, List.getElem_toArray, List.getElem_cons_zero, List.getElem_cons_succ, List.setIfInBounds_toArray, List.set_cons_zero, List.set_cons_succ]
        refine upto_takeN (i := 5) (v := ?_) rfl (by kernel_rfl) (by kernel_rfl) (by kernel_rfl) (by kernel_rfl) (fun _ _ _ h => h) (by rfl) hS ?_ ?_
        rotate_left
        · intro wS hSw
          try dsimp only at hSw
          first | (go_simp; done) | (go_simp; with_reducible rfl)
        try simp only [Act.put, List.getElem_toArray, List.getElem_cons_zero, List.getElem_cons_succ, List.setIfInBounds_toArray, List.set_cons_zero, List.set_cons_succ]
        refine upto_takeN (i := 8) (v := ?_) rfl (by kernel_rfl) (by kernel_rfl) (by kernel_rfl) (by kernel_rfl) (fun _ _ _ h => h) (by rfl) hS ?_ ?_
        rotate_left
        · intro wS hSw
          try dsimp only at hSw
          first | (go_simp; done) | (go_simp; with_reducible rfl)
        try simp only [Act.put, List.getElem_toArray, List.getElem_cons_zero, List.getElem_cons_succ, List.setIfInBounds_toArray, List.set_cons_zero, List.set_cons_succ]
        refine upto_takeN (i := 9) (v := ?_) rfl (by kernel_rfl) (by kernel_rfl) (by kernel_rfl) (by kernel_rfl) (fun _ _ _ h => h) (by rfl) hS ?_ ?_
        rotate_left
        · intro wS hSw
          try dsimp only at hSw
          first | (go_simp; done) | (go_simp; with_reducible rfl)
        try simp only [Act.put, List.getElem_toArray, List.getElem_cons_zero, List.getElem_cons_succ, List.setIfInBounds_toArray, List.set_cons_zero, List.set_cons_succ]
        refine upto_step (i := 6) (by kernel_rfl) rfl ?_
        intro K hK
        go_simp
        refine (HCh.out _ hS.1).mono ?_
        rintro e w5 ⟨rfl, hb5⟩
        have hS5 : (fun W => Below w4.heap.size w4 W ∧ W.cell? ⟨w4.heap.size, 0, none⟩ = some (.int .i64 0) ∧ W.cell? ⟨w4.heap.size, 1, none⟩ = some (.int .i64 rv) ∧ W.cell? ⟨w4.heap.size, 2, none⟩ = some (.slice a4 n c4)) w5 := ⟨bstep hS.1 hb5, cell_keep hb5 hS.2.1, cell_keep hb5 hS.2.2.1, cell_keep hb5 hS.2.2.2⟩
        refine hK _ _ (fun _ => hS5) ?_
        clear hK K hb5 hS
        try simp only [Act.put, List.getElem_toArray, List.getElem_cons_zero, List.getElem_cons_succ, List.setIfInBounds_toArray, List.set_cons_zero, List.set_cons_succ]
        refine upto_takeN (i := 7) (v := (.int .i64 rv)) rfl (by kernel_rfl) (by kernel_rfl) (by kernel_rfl) (by kernel_rfl) (fun _ _ _ h => h) (by rfl) hS5 ?_ ?_
        · intro wS hSw
          try dsimp only at hSw
          go_simp
        try simp only [Act.put, List.getElem_toArray, List.getElem_cons_zero, List.getElem_cons_succ, List.setIfInBounds_toArray, List.set_cons_zero, List.set_cons_succ]
        refine upto_takeN (i := 10) (v := (.bool true)) rfl (by kernel_rfl) (by kernel_rfl) (by kernel_rfl) (by kernel_rfl) (fun _ _ _ h => h) (by rfl) hS5 ?_ ?_
        · intro wS hSw
          try dsimp only at hSw
          go_simp
        try simp only [Act.put, List.getElem_toArray, List.getElem_cons_zero, List.getElem_cons_succ, List.setIfInBounds_toArray, List.set_cons_zero, List.set_cons_succ]
        refine upto_takeN (i := 11) (v := (.bool true)) rfl (by kernel_rfl) (by kernel_rfl) (by kernel_rfl) (by kernel_rfl) (fun _ _ _ h => h) (by rfl) hS5 ?_ ?_
        · intro wS hSw
          try dsimp only at hSw
          go_simp
        try simp only [Act.put, List.getElem_toArray, List.getElem_cons_zero, List.getElem_cons_succ, List.setIfInBounds_toArray, List.set_cons_zero, List.set_cons_succ]
        refine upto_takeN (i := 12) (v := (.bool true)) rfl (by kernel_rfl) (by kernel_rfl) (by kernel_rfl) (by kernel_rfl) (fun _ _ _ h => h) (by rfl) hS5 ?_ ?_
        · intro wS hSw
          try dsimp only at hSw
          go_simp
        try simp only [Act.put, List.getElem_toArray, List.getElem_cons_zero, List.getElem_cons_succ, List.setIfInBounds_toArray, List.set_cons_zero, List.set_cons_succ]
        refine upto_takeN (i := 13) (v := ?_) rfl (by kernel_rfl) (by kernel_rfl) (by kernel_rfl) (by kernel_rfl) (fun _ _ _ h => h) (by rfl) hS5 ?_ ?_
        rotate_left
        · intro wS hSw
          try dsimp only at hSw
          first | (go_simp; done) | (go_simp; with_reducible rfl)
        try simp only [Act.put, List.getElem_toArray, List.getElem_cons_zero, List.getElem_cons_succ, List.setIfInBounds_toArray, List.set_cons_zero, List.set_cons_succ]
        refine upto_takeN (i := 14) (v := (.bool false)) rfl (by kernel_rfl) (by kernel_rfl) (by kernel_rfl) (by kernel_rfl) (fun _ _ _ h => h) (by rfl) hS5 ?_ ?_
        · intro wS hSw
          try dsimp only at hSw
          go_simp
        try simp only [Act.put, List.getElem_toArray, List.getElem_cons_zero, List.getElem_cons_succ, List.setIfInBounds_toArray, List.set_cons_zero, List.set_cons_succ]
        refine upto_takeN (i := 15) (v := (.bool false)) rfl (by kernel_rfl) (by kernel_rfl) (by kernel_rfl) (by kernel_rfl) (fun _ _ _ h => h) (by rfl) hS5 ?_ ?_
        · intro wS hSw
          try dsimp only at hSw
          go_simp
        try simp only [Act.put, List.getElem_toArray, List.getElem_cons_zero, List.getElem_cons_succ, List.setIfInBounds_toArray, List.set_cons_zero, List.set_cons_succ]
        refine upto_takeN (i := 16) (v := ?_) rfl (by kernel_rfl) (by kernel_rfl) (by kernel_rfl) (by kernel_rfl) (fun _ _ _ h => h) (by rfl) hS5 ?_ ?_
        rotate_left
        · intro wS hSw
          try dsimp only at hSw
          first | (go_simp; done) | (go_simp; with_reducible rfl)
        try simp only [Act.put, List.getElem_toArray, List.getElem_cons_zero, List.getElem_cons_succ, List.setIfInBounds_toArray, List.set_cons_zero, List.set_cons_succ]
        refine upto_takeN (i := 17) (v := ?_) rfl (by kernel_rfl) (by kernel_rfl) (by kernel_rfl) (by kernel_rfl) (fun _ _ _ h => h) (by rfl) hS5 ?_ ?_
        rotate_left
        · intro wS hSw
          try dsimp only at hSw
          first | (go_simp; done) | (go_simp; with_reducible rfl)
        try simp only [Act.put, List.getElem_toArray, List.getElem_cons_zero, List.getElem_cons_succ, List.setIfInBounds_toArray, List.set_cons_zero, List.set_cons_succ]
        refine upto_takeN (i := 18) (v := ?_) rfl (by kernel_rfl) (by kernel_rfl) (by kernel_rfl) (by kernel_rfl) (fun _ _ _ h => h) (by rfl) hS5 ?_ ?_
        rotate_left
        · intro wS hSw
          try dsimp only at hSw
          first | (go_simp; done) | (go_simp; with_reducible rfl)
        try simp only [Act.put, List.getElem_toArray, List.getElem_cons_zero, List.getElem_cons_succ, List.setIfInBounds_toArray, List.set_cons_zero, List.set_cons_succ]
        refine upto_takeN (i := 19) (v := (.bool true)) rfl (by kernel_rfl) (by kernel_rfl) (by kernel_rfl) (by kernel_rfl) (fun _ _ _ h => h) (by rfl) hS5 ?_ ?_
        · intro wS hSw
          try dsimp only at hSw
          go_simp
        try simp only [Act.put, List.getElem_toArray, List.getElem_cons_zero, List.getElem_cons_succ, List.setIfInBounds_toArray, List.set_cons_zero, List.set_cons_succ]
        refine upto_takeN (i := 20) (v := (.bool true)) rfl (by kernel_rfl) (by kernel_rfl) (by kernel_rfl) (by kernel_rfl) (fun _ _ _ h => h) (by rfl) hS5 ?_ ?_
        · intro wS hSw
          try dsimp only at hSw
          go_simp
        try simp only [Act.put, List.getElem_toArray, List.getElem_cons_zero, List.getElem_cons_succ, List.setIfInBounds_toArray, List.set_cons_zero, List.set_cons_succ]
        refine upto_takeN (i := 21) (v := (.bool true)) rfl (by kernel_rfl) (by kernel_rfl) (by kernel_rfl) (by kernel_rfl) (fun _ _ _ h => h) (by rfl) hS5 ?_ ?_
        · intro wS hSw
          try dsimp only at hSw
          go_simp
        try simp only [Act.put, List.getElem_toArray, List.getElem_cons_zero, List.getElem_cons_succ, List.setIfInBounds_toArray, List.set_cons_zero, List.set_cons_succ]
        refine upto_takeN (i := 22) (v := (.bool true)) rfl (by kernel_rfl) (by kernel_rfl) (by kernel_rfl) (by kernel_rfl) (fun _ _ _ h => h) (by rfl) hS5 ?_ ?_
        · intro wS hSw
          try dsimp only at hSw
          go_simp
        try simp only [Act.put, List.getElem_toArray, List.getElem_cons_zero, List.getElem_cons_succ, List.setIfInBounds_toArray, List.set_cons_zero, List.set_cons_succ]
        refine upto_done (by kernel_rfl) ?_
        refine NoPanic.normal ?_
        have hB5 := hS5.1
        clear hS5
        go_wp2
        go_ret
        exact ⟨rfl, bstep hB4 hB5⟩
end agreesLaw

end Go.Proofs.Yteppnppknfldbaa

