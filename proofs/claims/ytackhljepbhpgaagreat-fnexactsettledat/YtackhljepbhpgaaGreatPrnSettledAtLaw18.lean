import Derived.Test.YtackhljepbhpgaaGreatCsD
import Derived.BigQuiet
import Derived.Deep.QuietTactic
import Derived.Deep.RegionHeld3
set_option maxHeartbeats 64000000
set_option maxRecDepth 20000
set_option linter.unusedSimpArgs false
set_option linter.unusedVariables false
set_option linter.unusedSectionVars false

namespace Go.Proofs.YtackhljepbhpgaaGreat
open Go.RowKit
variable [DecidableEq Leg] [Inhabited Leg] [DecidableEq Cont] [Inhabited Cont] [DecidableEq Bal] [Inhabited Bal] [DecidableEq Mrk] [Inhabited Mrk] [DecidableEq Shd] [Inhabited Shd] [DecidableEq Vot] [Inhabited Vot] [DecidableEq Slt] [Inhabited Slt] [DecidableEq Acc] [Inhabited Acc] [DecidableEq Trr] [Inhabited Trr] [DecidableEq Hrd] [Inhabited Hrd] [DecidableEq Ldr] [Inhabited Ldr] [DecidableEq Msg] [Inhabited Msg] [DecidableEq Clu] [Inhabited Clu] [DecidableEq Ledg] [Inhabited Ledg] [DecidableEq SltR] [Inhabited SltR] [DecidableEq AccR] [Inhabited AccR] [DecidableEq AccsR] [Inhabited AccsR] [DecidableEq SltsR] [Inhabited SltsR] [DecidableEq Rw] [Inhabited Rw] [DecidableEq LedgR] [Inhabited LedgR] [DecidableEq OutcR] [Inhabited OutcR] [DecidableEq ShdR] [Inhabited ShdR]
attribute [local go_sem ↓] Go.wp_at_zero Go.wp_at_succ

theorem l11Leaders_any (B : Nat) (c : Clu) (w : World) (h : CluB w B c) (hlen : ∀ k, k < c.cons.length → (c.cons.getD k default).legs.length ≤ 1048576) (hneed : ∀ k, k < c.ldrs.length → ∀ i, i < (c.ldrs.getD k default).tries.length → ((c.ldrs.getD k default).tries.getD i default).frm.length ≤ 1048576) :
  Calls Tryz.prog 36 #[.pointer (some ⟨B, 0, none⟩)] w fun e w' => e = .returned (.int .i64 (ldrsA c)) ∧ Below w.heap.size w w' := by
 have HHas : Hid (∀ (a s : Int) W, Below w.heap.size w W → Calls Tryz.prog 72 #[.pointer (some ⟨B, 0, none⟩), .int .i64 a, .int .i64 s] W fun e w' => e = .returned (.bool (hasL c a s)) ∧ Below W.heap.size W w') := fun a s W hW => l11Has_any B c a s W ((h.below hW).p) hlen
 have HTry : Hid (∀ (ts : List Trr) (a : Option Addr) (n cc k : Nat) W, Below w.heap.size w W → trysR.V W (.slice a n cc) ts → k < n → (ts.getD k default).frm.length ≤ 1048576 → Calls Tryz.prog 76 #[.pointer (some ⟨B, 0, none⟩), .slice a n cc, .int .i64 k] W fun e w' => e = .returned (.int .i64 (tryAt c ts k)) ∧ Below W.heap.size W w') := fun ts a n cc k W hW hx hk hm => l11Try_any B c ts a n cc k W (h.below hW) hlen hx hk hm
 have HP : Hid (∀ W, Below w.heap.size w W → CluP W B c) := fun W hW => (h.below hW).p
 obtain ⟨a0, a1, a2, a3, a4, c0, c1, c2, c3, c4, n0, n1, n2, n3, n4, ⟨y0, y1, y2, y3, y4⟩, hx⟩ := h
 have hf := clu_lens hx
 obtain ⟨e0, e1, e2, e3, e4, L0, L1, L2, L3, L4⟩ := hf
 obtain ⟨u1, u2, u3, u4, u5, eq, h1, h2, h3, h4, h5⟩ := hx
 simp only [Value.agg.injEq, Array.mk.injEq, List.cons.injEq, and_true] at eq
 obtain ⟨rfl, rfl, rfl, rfl, rfl⟩ := eq
 have zB : B < w.heap.size := wL w _ y0
 obtain ⟨_, hnc, hmc, HA⟩ := ldrs_at h4
 unfold maxLen at hmc
 have HX : Hid _ := HA
 rw [e3] at hneed
 have HN : Hid _ := hneed
 have E2 : Hid (c.accs.length = n2) := e2
 have H1 : Hid (∀ k, k < n3 → scanI (fun k => ldrA c (c.ldrs.getD k default)) k = 0 → ¬ ldrA c (c.ldrs.getD k default) = 0 → ldrsA c = ldrA c (c.ldrs.getD k default)) := fun k hk hs h0 => by unfold ldrsA; exact scanI_hit (f := fun k => ldrA c (c.ldrs.getD k default)) hs h0 _ (by rw [e3]; exact hk)
 have H2 : Hid (scanI (fun k => ldrA c (c.ldrs.getD k default)) n3 = 0 → ldrsA c = 0) := fun h => by unfold ldrsA; rw [e3]; exact h
 clear HA h1 h2 h3 h4 h5 hlen hneed e0 e1 e2 e3 e4 L0 L1 L4 HP y0 y1 y4
 generalize ldrsA c = R at *
 go_enter Tryz.func36, Tryz.ntmps36
 go_wp2
 go_loopw [3] (fun i w' => ∃ k : Nat, k ≤ n3 ∧ i = .int .i64 k ∧ Hid (scanI (fun k => ldrA c (c.ldrs.getD k default)) k = 0) ∧ Below w.heap.size w w') (fun i _ => n3 - (intOf i).toNat)
 case atStart => exact ⟨0, Nat.zero_le _, rfl, rfl, qBq⟩
 case round =>
  obtain ⟨k, hk, rfl, HS, hbl⟩ := hrel
  have y3' := cK hbl y3
  have zB' : B < wr.heap.size := wL wr _ y3'
  by_cases hlt : k < n3
  ·
   have HA := HX.out k hlt
   have HNk := HN.out k hlt
   have HH : Hid (¬ ldrA c (c.ldrs.getD k default) = 0 → R = ldrA c (c.ldrs.getD k default)) := fun h => H1.out k hlt HS.out h
   have HZ : Hid (ldrA c (c.ldrs.getD k default) = 0 → scanI (fun k => ldrA c (c.ldrs.getD k default)) (k + 1) = 0) := fun h => scanI_succ (f := fun k => ldrA c (c.ldrs.getD k default)) HS.out h
   obtain ⟨l, hl0⟩ : ∃ l, l = c.ldrs.getD k default := ⟨_, rfl⟩
   rw [← hl0] at HA HH HZ HNk
   clear hl0
   obtain ⟨b, o, p, q, p', q', rfl, g0, g1, g2, ht, hh⟩ := HA
   have lt := len_of ht
   obtain ⟨_, hnk, hmk, HK⟩ := hrds_atF hh
   unfold maxLen at hmk
   have HKn : Hid _ := HK
   have HTk : Hid (∀ j, j < l.tries.length → ∀ W, Below w.heap.size w W → Calls Tryz.prog 76 #[.pointer (some ⟨B, 0, none⟩), .slice p l.tries.length q, .int .i64 j] W fun e w' => e = .returned (.int .i64 (tryAt c l.tries j)) ∧ Below W.heap.size W w') := fun j hj W hW => HTry.out l.tries p _ q j W hW (trysR.below ht hW) hj (HNk j hj)
   have HD0 : Hid (¬ ldrF l = 0 → ldrA c l = ldrF l) := fun h => orF_n h
   have HD1 : Hid (ldrF l = 0 → ¬ triesF c l = 0 → ldrA c l = triesF c l) := fun h h' => by unfold ldrA; rw [orF_z h, orF_n h']
   have HD2 : Hid (ldrF l = 0 → triesF c l = 0 → ldrA c l = knownF c l) := fun h h' => by unfold ldrA; rw [orF_z h, orF_z h']
   have HT1 : Hid (∀ j, j < l.tries.length → scanI (tryAt c l.tries) j = 0 → ¬ tryAt c l.tries j = 0 → triesF c l = tryAt c l.tries j) := fun j hj hs h0 => scanI_hit hs h0 _ hj
   have HT2 : Hid (scanI (tryAt c l.tries) l.tries.length = 0 → triesF c l = 0) := fun h => h
   have HK1 : Hid (∀ j, j < l.known.length → scanI (hrdAt c l.known) j = 0 → ¬ hrdAt c l.known j = 0 → knownF c l = hrdAt c l.known j) := fun j hj hs h0 => scanI_hit hs h0 _ hj
   have HK2 : Hid (scanI (hrdAt c l.known) l.known.length = 0 → knownF c l = 0) := fun h => h
   have HDf : Hid (ldrF l = if inB l.count 0 400 = true then (if 60 < l.tries.length ∨ 300 < l.known.length then 2 else 0) else 3) := rfl
   clear ht hh HK HNk
   replace g0 := cK hbl g0
   replace g1 := cK hbl g1
   replace g2 := cK hbl g2
   have zb : b < wr.heap.size := wL wr _ g0
   have hti : (k : Int) < (n3 : Int) := by omega
   generalize ldrA c l = z at *
   generalize ldrF l = z0 at *
   generalize triesF c l = z1 at *
   generalize knownF c l = z2 at *
   generalize l.count = ct at *
   generalize hmt' : l.tries.length = mt at *
   generalize hmk' : l.known.length = mk at *
   clear hmt' hmk'
   cases hc : inB ct 0 400
   ·
    have hz : z0 = 3 := by rw [HDf.out, hc]; rfl
    have HC : Hid (R = 3) := by show _ = _; rw [← hz, ← HD0.out (by rw [hz]; omega)]; exact HH.out (by rw [HD0.out (by rw [hz]; omega), hz]; omega)
    clear HH HZ HDf hz HD0 HD1 HD2 HT1 HT2 HK1 HK2 HTk HKn
    go_wp2_with (first | (go_at_call 75; refine (l1In_any _ _ _ _).mono ?_; rintro e w' ⟨rfl, hw⟩; obtain rfl := hw.symm; rw [hc]))
    go_ret
    exact ⟨by rw [HC.out]; rfl, qBq⟩
   by_cases ht6 : 60 < mt
   ·
    have hz : z0 = 2 := by rw [HDf.out, if_pos hc, if_pos (.inl ht6)]
    have HC : Hid (R = 2) := by show _ = _; rw [← hz, ← HD0.out (by rw [hz]; omega)]; exact HH.out (by rw [HD0.out (by rw [hz]; omega), hz]; omega)
    have ht6' : (60 : Int) < (mt : Int) := by omega
    clear HH HZ HDf hz HD0 HD1 HD2 HT1 HT2 HK1 HK2 HTk HKn
    go_wp2_with (first | (go_at_call 75; refine (l1In_any _ _ _ _).mono ?_; rintro e w' ⟨rfl, hw⟩; obtain rfl := hw.symm; rw [hc]))
    go_ret
    exact ⟨by rw [HC.out]; rfl, qBq⟩
   have ht6' : ¬ (60 : Int) < (mt : Int) := by omega
   by_cases hk3 : 300 < mk
   ·
    have hz : z0 = 2 := by rw [HDf.out, if_pos hc, if_pos (.inr hk3)]
    have HC : Hid (R = 2) := by show _ = _; rw [← hz, ← HD0.out (by rw [hz]; omega)]; exact HH.out (by rw [HD0.out (by rw [hz]; omega), hz]; omega)
    have hk3' : (300 : Int) < (mk : Int) := by omega
    clear HH HZ HDf hz HD0 HD1 HD2 HT1 HT2 HK1 HK2 HTk HKn
    go_wp2_with (first | (go_at_call 75; refine (l1In_any _ _ _ _).mono ?_; rintro e w' ⟨rfl, hw⟩; obtain rfl := hw.symm; rw [hc]))
    go_ret
    exact ⟨by rw [HC.out]; rfl, qBq⟩
   have hk3' : ¬ (300 : Int) < (mk : Int) := by omega
   have hz0 : z0 = 0 := by rw [HDf.out, if_pos hc, if_neg (fun h => h.elim ht6 hk3)]
   have HE1 : Hid _ := HD1.out hz0
   have HE2 : Hid _ := HD2.out hz0
   clear HD0 HD1 HD2 HDf hz0
   go_wp2_with (first | (go_at_call 75; refine (l1In_any _ _ _ _).mono ?_; rintro e w' ⟨rfl, hw⟩; obtain rfl := hw.symm; rw [hc]))
   obtain ⟨wl, hwl⟩ : ∃ wl, wl = wr.heap.size := ⟨_, rfl⟩
   have zwl : w.heap.size ≤ wl := by rw [hwl]; exact hbl.size
   have hBa : Below w.heap.size w (wr.alloc (.cells #[.int .i64 ct, .slice p mt q, .slice p' mk q'] 106)) := qBq
   have hLa : (wr.alloc (.cells #[.int .i64 ct, .slice p mt q, .slice p' mk q'] 106)).cell? ⟨wl, 0, none⟩ = some (.int .i64 ct) ∧ (wr.alloc (.cells #[.int .i64 ct, .slice p mt q, .slice p' mk q'] 106)).cell? ⟨wl, 1, none⟩ = some (.slice p mt q) ∧ (wr.alloc (.cells #[.int .i64 ct, .slice p mt q, .slice p' mk q'] 106)).cell? ⟨wl, 2, none⟩ = some (.slice p' mk q') := by rw [hwl]; exact ⟨by simp [go_sem], by simp [go_sem], by simp [go_sem]⟩
   rw [← hwl]
   clear hwl g0 g1 g2 hc zb
   generalize wr.alloc (.cells #[.int .i64 ct, .slice p mt q, .slice p' mk q'] 106) = wa at *
   go_loopw [5] (fun i w' => ∃ j : Nat, j ≤ mt ∧ i = .int .i64 j ∧ Hid (scanI (tryAt c l.tries) j = 0) ∧ (w'.cell? ⟨wl, 0, none⟩ = some (.int .i64 ct) ∧ w'.cell? ⟨wl, 1, none⟩ = some (.slice p mt q) ∧ w'.cell? ⟨wl, 2, none⟩ = some (.slice p' mk q')) ∧ Below w.heap.size w w') (fun i _ => mt - (intOf i).toNat)
   case atStart => exact ⟨0, Nat.zero_le _, rfl, rfl, hLa, hBa⟩
   case round =>
    obtain ⟨i1, hj, rfl, HS1, HL3, hblw⟩ := hrel
    have zwl1 : wl < _ := wL _ _ HL3.1
    obtain ⟨l30, l31, l32⟩ := HL3
    by_cases hlt1 : i1 < mt
    ·
     have HC1 := HTk.out i1 hlt1
     have HC2 : Hid _ := HC1
     have HT := HT1.out i1 hlt1 HS1.out
     have HT' : Hid (¬ tryAt c l.tries i1 = 0 → z1 = tryAt c l.tries i1) := HT
     have HGo : Hid (tryAt c l.tries i1 = 0 → scanI (tryAt c l.tries) (i1 + 1) = 0) := fun h => scanI_succ HS1.out h
     clear HC1 HT
     generalize tryAt c l.tries i1 = tz at *
     have hti1 : (i1 : Int) < (mt : Int) := by omega
     go_wp2_with fail
     refine (HC2.out _ (qBq)).mono ?_
     rintro e w3 ⟨rfl, hb3⟩
     have hB3 : Below w.heap.size w w3 := bS (qBq) hb3
     have hL3 : w3.cell? ⟨wl, 0, none⟩ = some (.int .i64 ct) ∧ w3.cell? ⟨wl, 1, none⟩ = some (.slice p mt q) ∧ w3.cell? ⟨wl, 2, none⟩ = some (.slice p' mk q') := ⟨cK hb3 (by first | exact l30 | exact cK (qBq) l30), cK hb3 (by first | exact l31 | exact cK (qBq) l31), cK hb3 (by first | exact l32 | exact cK (qBq) l32)⟩
     clear hb3 HC2
     by_cases htz : tz = 0
     ·
      have HQ : Hid _ := HGo.out htz
      subst htz
      clear HGo HT'
      go_wp2
      exact ⟨⟨i1 + 1, by omega, by go_num, HQ, hL3, hB3⟩, by simp [intOf]; omega⟩
     ·
      have hz1 : z1 = tz := HT'.out htz
      have HC : Hid (R = tz) := by show _ = _; rw [← hz1, ← HE1.out (by rw [hz1]; exact htz)]; exact HH.out (by rw [HE1.out (by rw [hz1]; exact htz), hz1]; exact htz)
      have htz' : (tz != 0) = true := by simp [htz]
      clear HGo HT' hz1 HH HZ HE1 HE2
      go_wp2; go_ret
      exact ⟨by rw [HC.out]; rfl, hB3⟩
    ·
     obtain rfl : i1 = mt := by omega
     have hti1 : ¬ (i1 : Int) < (i1 : Int) := by omega
     have hz1 : z1 = 0 := HT2.out HS1.out
     have HEz : Hid _ := HE2.out hz1
     have HBadK : Hid (∀ i, i < mk → scanI (hrdAt c l.known) i = 0 → ∀ code : Int, ¬ code = 0 → hrdAt c l.known i = code → R = code) := fun i hi hs code h0 hcd => by
      have e1 := HK1.out i hi hs (by rw [hcd]; exact h0)
      show _ = _
      rw [← hcd, ← e1, ← HEz.out]
      exact HH.out (by rw [HEz.out, e1, hcd]; exact h0)
     have HEnd : Hid (scanI (hrdAt c l.known) mk = 0 → scanI (fun k => ldrA c (c.ldrs.getD k default)) (k + 1) = 0) := fun hs => HZ.out (by rw [HEz.out]; exact HK2.out hs)
     clear HE1 HE2 HT1 HT2 HTk hz1 HEz HH HZ HK1 HK2
     go_wp2
     clear hLa hBa hj hlt1 hti1 zwl1 HS1 ht6' hk3'
     go_loopw [7] (fun i w' => ∃ j : Nat, j ≤ mk ∧ i = .int .i64 j ∧ Hid (scanI (hrdAt c l.known) j = 0) ∧ (w'.cell? ⟨wl, 0, none⟩ = some (.int .i64 ct) ∧ w'.cell? ⟨wl, 1, none⟩ = some (.slice p i1 q) ∧ w'.cell? ⟨wl, 2, none⟩ = some (.slice p' mk q')) ∧ Below w.heap.size w w') (fun i _ => mk - (intOf i).toNat)
     case atStart => exact ⟨0, Nat.zero_le _, rfl, rfl, ⟨l30, l31, l32⟩, hblw⟩
     case round =>
      clear l30 l31 l32 hblw
      obtain ⟨j, hj, rfl, HS2, HL3, hblw⟩ := hrel
      have zwl1 : wl < _ := wL _ _ HL3.1
      obtain ⟨l30, l31, l32⟩ := HL3
      by_cases hlt2 : j < mk
      ·
       have HL3 := And.intro l30 (And.intro l31 l32)
       obtain ⟨bk, ok, hpe, k0, k1, k2, k3, k4⟩ := HKn.out j hlt2
       subst hpe
       have HPv : Hid (∀ p1, j = p1 + 1 → w.cell? ⟨bk, ok + p1 * 5, none⟩ = some (.int .i64 (l.known.getD p1 default).con) ∧ w.cell? ⟨bk, ok + p1 * 5 + 1, none⟩ = some (.int .i64 (l.known.getD p1 default).sh) ∧ w.cell? ⟨bk, ok + p1 * 5 + 2, none⟩ = some (.int .i64 (l.known.getD p1 default).bal) ∧ w.cell? ⟨bk, ok + p1 * 5 + 3, none⟩ = some (.int .i64 (l.known.getD p1 default).val) ∧ w.cell? ⟨bk, ok + p1 * 5 + 4, none⟩ = some (.int .i64 (l.known.getD p1 default).frm)) := fun p1 hp1 => by
        obtain ⟨b8, o8, ha', f0, f1, f2, f3, f4⟩ := HKn.out p1 (by omega)
        simp only [Option.some.injEq, Addr.mk.injEq, and_true] at ha'
        obtain ⟨rfl, rfl⟩ := ha'
        exact ⟨f0, f1, f2, f3, f4⟩
       have HE : Hid (hrdAt c l.known j = hrdD c (l.known.getD j default) (decide (j = 0) || decide (cmpH (l.known.getD (j - 1) default) (l.known.getD j default) < 0))) := hrdAt_eq c l.known j
       have HBad : Hid (∀ code : Int, ¬ code = 0 → hrdAt c l.known j = code → R = code) := fun code h0 hc => HBadK.out j hlt2 HS2.out code h0 hc
       have HGo : Hid (hrdAt c l.known j = 0 → scanI (hrdAt c l.known) (j + 1) = 0) := fun h => scanI_succ HS2.out h
       obtain ⟨h, hh0⟩ : ∃ h, h = l.known.getD j default := ⟨_, rfl⟩
       rw [← hh0] at k0 k1 k2 k3 k4 HE
       clear hh0
       have HD : Hid (∀ bh, hrdD c h bh = if hasL c h.con h.sh = true then (if (inB h.bal 0 1000 = true ∧ inB h.val 1 2 = true) ∧ inB h.frm 0 ((n2 : Int) - 1) = true then (if bh = true then 0 else 1) else 3) else 4) := fun bh => by show _ = _; unfold hrdD; rw [E2.out]
       generalize hrdAt c l.known j = zz at *
       obtain ⟨y, hy0⟩ : ∃ y, y = l.known.getD (j - 1) default := ⟨_, rfl⟩
       rw [← hy0] at HE
       have HC1 : Hid _ := HHas.out h.con h.sh
       replace k0 := cK hblw k0
       replace k1 := cK hblw k1
       replace k2 := cK hblw k2
       replace k3 := cK hblw k3
       replace k4 := cK hblw k4
       have hti2 : (j : Int) < (mk : Int) := by omega
       have zbk : bk < _ := wL _ _ k0
       generalize hasL c h.con h.sh = hl at *
       go_wp2_with fail
       refine (HC1.out _ (qBq)).mono ?_
       rintro e w3 ⟨rfl, hb3⟩
       have hB3 : Below w.heap.size w w3 := bS (qBq) hb3
       have hx : w3.cell? ⟨wr.heap.size, 0, none⟩ = some (.int .i64 h.con) ∧ w3.cell? ⟨wr.heap.size, 1, none⟩ = some (.int .i64 h.sh) ∧ w3.cell? ⟨wr.heap.size, 2, none⟩ = some (.int .i64 h.bal) ∧ w3.cell? ⟨wr.heap.size, 3, none⟩ = some (.int .i64 h.val) ∧ w3.cell? ⟨wr.heap.size, 4, none⟩ = some (.int .i64 h.frm) := ⟨cK hb3 (by simp [go_sem]), cK hb3 (by simp [go_sem]), cK hb3 (by simp [go_sem]), cK hb3 (by simp [go_sem]), cK hb3 (by simp [go_sem])⟩
       have hL3 := And.intro (cK hb3 (cK (qBq) HL3.1)) (And.intro (cK hb3 (cK (qBq) HL3.2.1)) (cK hb3 (cK (qBq) HL3.2.2)))
       clear hb3 HC1 k0 k1 k2 k3 k4
       obtain ⟨wh, hwh⟩ : ∃ wh, wh = wr.heap.size := ⟨_, rfl⟩
       rw [← hwh] at hx ⊢
       have zwh : w.heap.size ≤ wh := by rw [hwh]; exact hblw.size
       clear hwh
       have zw3 : wh < w3.heap.size := wL w3 _ hx.1
       have yy2 := cK hB3 y2
       have HL3' : Hid _ := hL3
       cases hl
       ·
        have hz : zz = 4 := by rw [HE.out, HD.out]; rfl
        clear hL3 HD HE
        have HC : Hid (R = 4) := HBad.out 4 (by omega) (hz)
        clear HBad HGo
        go_wp2; go_ret
        exact ⟨by rw [HC.out]; rfl, hB3⟩
       have HD2 : Hid (∀ bh, hrdD c h bh = if (inB h.bal 0 1000 = true ∧ inB h.val 1 2 = true) ∧ inB h.frm 0 ((n2 : Int) - 1) = true then (if bh = true then 0 else 1) else 3) := fun bh => by show _ = _; rw [HD.out, if_pos rfl]
       clear HD
       have i4 : IntKind.i64.wrap ((n2 : Int) - 1) = (n2 : Int) - 1 := wrapId (by omega) (by omega)
       have i5 : IntKind.i64.wrap (n2 : Int) = (n2 : Int) := wrapId (by omega) (by omega)
       clear hL3
       go_wp2
       refine wp_region_noPanic ?_
       refine region_upto (fun W => W.cell? ⟨wh, 0, none⟩ = some (.int .i64 h.con) ∧ W.cell? ⟨wh, 1, none⟩ = some (.int .i64 h.sh) ∧ W.cell? ⟨wh, 2, none⟩ = some (.int .i64 h.bal) ∧ W.cell? ⟨wh, 3, none⟩ = some (.int .i64 h.val) ∧ W.cell? ⟨wh, 4, none⟩ = some (.int .i64 h.frm) ∧ W.cell? ⟨B, 2, none⟩ = some (.slice a2 n2 c2)) 22 (by kernel_rfl) ⟨cK (qBq) hx.1, cK (qBq) hx.2.1, cK (qBq) hx.2.2.1, cK (qBq) hx.2.2.2.1, cK (qBq) hx.2.2.2.2, cK (qBq) yy2⟩ (fun hS => ?_)
       refine tM 0 rfl hS ?_; try simp only [jX]
       refine tM 1 rfl hS ?_; try simp only [jX]
       refine uS 2 rfl (fun K hK => ?_)
       go_simp
       refine (l8Ballot_any _ _).mono ?_
       rintro e w' ⟨rfl, hw⟩
       obtain rfl := hw.symm
       refine hK _ _ (fun _ => hS) ?_
       clear hK K
       try simp only [jX]
       cases hb : inB h.bal 0 1000
       ·
        have hz : zz = 3 := by rw [HE.out, HD2.out, if_neg (fun x => by rw [hb] at x; cases x.1.1)]
        clear HD2 HE
        refine tM 3 rfl hS ?_; try simp only [jX]
        refine tM 4 rfl hS ?_; try simp only [jX]
        refine sN 5 rfl hS (fun _ => ?_); try simp only [jX]
        refine sN 6 rfl hS (fun _ => ?_); try simp only [jX]
        refine sN 7 rfl hS (fun _ => ?_); try simp only [jX]
        refine sN 8 rfl hS (fun _ => ?_); try simp only [jX]
        refine tM 9 rfl hS ?_; try simp only [jX]
        refine tM 10 rfl hS ?_; try simp only [jX]
        refine sN 11 rfl hS (fun _ => ?_); try simp only [jX]
        refine sN 12 rfl hS (fun _ => ?_); try simp only [jX]
        refine sN 13 rfl hS (fun _ => ?_); try simp only [jX]
        refine sN 14 rfl hS (fun _ => ?_); try simp only [jX]
        refine sN 15 rfl hS (fun _ => ?_); try simp only [jX]
        refine sN 16 rfl hS (fun _ => ?_); try simp only [jX]
        refine sN 17 rfl hS (fun _ => ?_); try simp only [jX]
        refine sN 18 rfl hS (fun _ => ?_); try simp only [jX]
        refine sN 19 rfl hS (fun _ => ?_); try simp only [jX]
        refine sN 20 rfl hS (fun _ => ?_); try simp only [jX]
        refine tM 21 rfl hS ?_; try simp only [jX]
        have HC : Hid (R = 3) := HBad.out 3 (by omega) (hz)
        clear HBad HGo
        refine dN (NoPanic.normal ?_)
        go_wp2; go_ret
        exact ⟨by rw [HC.out]; rfl, qBq⟩
       refine tM 3 rfl hS ?_; try simp only [jX]
       refine tM 4 rfl hS ?_; try simp only [jX]
       refine tM 5 rfl hS ?_; try simp only [jX]
       refine tM 6 rfl hS ?_; try simp only [jX]
       refine uS 7 rfl (fun K hK => ?_)
       go_simp
       refine (l8Value_any _ _).mono ?_
       rintro e w' ⟨rfl, hw⟩
       obtain rfl := hw.symm
       refine hK _ _ (fun _ => hS) ?_
       clear hK K
       try simp only [jX]
       cases hv : inB h.val 1 2
       ·
        have hz : zz = 3 := by rw [HE.out, HD2.out, if_neg (fun x => by rw [hv] at x; cases x.1.2)]
        clear HD2 HE
        refine tM 8 rfl hS ?_; try simp only [jX]
        refine tM 9 rfl hS ?_; try simp only [jX]
        refine tM 10 rfl hS ?_; try simp only [jX]
        refine sN 11 rfl hS (fun _ => ?_); try simp only [jX]
        refine sN 12 rfl hS (fun _ => ?_); try simp only [jX]
        refine sN 13 rfl hS (fun _ => ?_); try simp only [jX]
        refine sN 14 rfl hS (fun _ => ?_); try simp only [jX]
        refine sN 15 rfl hS (fun _ => ?_); try simp only [jX]
        refine sN 16 rfl hS (fun _ => ?_); try simp only [jX]
        refine sN 17 rfl hS (fun _ => ?_); try simp only [jX]
        refine sN 18 rfl hS (fun _ => ?_); try simp only [jX]
        refine sN 19 rfl hS (fun _ => ?_); try simp only [jX]
        refine sN 20 rfl hS (fun _ => ?_); try simp only [jX]
        refine tM 21 rfl hS ?_; try simp only [jX]
        have HC : Hid (R = 3) := HBad.out 3 (by omega) (hz)
        clear HBad HGo
        refine dN (NoPanic.normal ?_)
        go_wp2; go_ret
        exact ⟨by rw [HC.out]; rfl, qBq⟩
       refine tM 8 rfl hS ?_; try simp only [jX]
       refine tM 9 rfl hS ?_; try simp only [jX]
       refine tM 10 rfl hS ?_; try simp only [jX]
       refine tM 11 rfl hS ?_; try simp only [jX]
       refine tM 12 rfl hS ?_; try simp only [jX]
       refine tM 13 rfl hS ?_; try simp only [jX]
       refine tM 14 rfl hS ?_; try simp only [jX]
       refine tM 15 rfl hS ?_; try simp only [jX]
       refine tM 16 rfl hS ?_; try simp only [jX]
       refine tM 17 rfl hS ?_; try simp only [jX]
       refine tM 18 rfl hS ?_; try simp only [jX]
       refine uS 19 rfl (fun K hK => ?_)
       go_simp
       refine (l1In_any _ _ _ _).mono ?_
       rintro e w' ⟨rfl, hw⟩
       obtain rfl := hw.symm
       refine hK _ _ (fun _ => hS) ?_
       clear hK K
       try simp only [jX]
       cases hp : inB h.frm 0 ((n2 : Int) - 1)
       ·
        have hz : zz = 3 := by rw [HE.out, HD2.out, if_neg (fun x => by rw [hp] at x; cases x.2)]
        clear HD2 HE
        refine tM 20 rfl hS ?_; try simp only [jX]
        refine tM 21 rfl hS ?_; try simp only [jX]
        have HC : Hid (R = 3) := HBad.out 3 (by omega) (hz)
        clear HBad HGo
        refine dN (NoPanic.normal ?_)
        go_wp2; go_ret
        exact ⟨by rw [HC.out]; rfl, qBq⟩
       have HD3 : Hid (∀ bh, hrdD c h bh = if bh = true then 0 else 1) := fun bh => by show _ = _; rw [HD2.out, if_pos ⟨⟨hb, hv⟩, hp⟩]
       clear HD2 hb hv hp
       refine tM 20 rfl hS ?_; try simp only [jX]
       refine tM 21 rfl hS ?_; try simp only [jX]
       refine dN (NoPanic.normal ?_)
       have hB4 : Below w.heap.size w w3.drew := qBq
       have hx4 : w3.drew.cell? ⟨wh, 0, none⟩ = some (.int .i64 h.con) ∧ w3.drew.cell? ⟨wh, 1, none⟩ = some (.int .i64 h.sh) ∧ w3.drew.cell? ⟨wh, 2, none⟩ = some (.int .i64 h.bal) ∧ w3.drew.cell? ⟨wh, 3, none⟩ = some (.int .i64 h.val) ∧ w3.drew.cell? ⟨wh, 4, none⟩ = some (.int .i64 h.frm) := ⟨hS.1, hS.2.1, hS.2.2.1, hS.2.2.2.1, hS.2.2.2.2.1⟩
       have hL4 : w3.drew.cell? ⟨wl, 0, none⟩ = some (.int .i64 ct) ∧ w3.drew.cell? ⟨wl, 1, none⟩ = some (.slice p i1 q) ∧ w3.drew.cell? ⟨wl, 2, none⟩ = some (.slice (some ⟨bk, ok, none⟩) mk q') := ⟨cK (qBq) HL3'.out.1, cK (qBq) HL3'.out.2.1, cK (qBq) HL3'.out.2.2⟩
       clear hS hx HL3' yy2 hB3 i4 i5
       generalize w3.drew = w4 at *
       replace zw3 : wh < w4.heap.size := wL w4 _ hx4.1
       cases j with
       | zero =>
        have hz : zz = 0 := by rw [HE.out, HD3.out]; rfl
        have HQ : Hid _ := HGo.out hz
        clear HGo HBad HE HD3 hz HPv
        go_wp2
        refine wp_region_noPanic ?_
        refine region_upto (fun W => W.cell? ⟨wh, 0, none⟩ = some (.int .i64 h.con) ∧ W.cell? ⟨wh, 1, none⟩ = some (.int .i64 h.sh) ∧ W.cell? ⟨wh, 2, none⟩ = some (.int .i64 h.bal) ∧ W.cell? ⟨wh, 3, none⟩ = some (.int .i64 h.val) ∧ W.cell? ⟨wh, 4, none⟩ = some (.int .i64 h.frm) ∧ W.cell? ⟨wl, 2, none⟩ = some (.slice (some ⟨bk, ok, none⟩) mk q')) 13 (by kernel_rfl) ⟨cK (qBq) hx4.1, cK (qBq) hx4.2.1, cK (qBq) hx4.2.2.1, cK (qBq) hx4.2.2.2.1, cK (qBq) hx4.2.2.2.2, cK (qBq) hL4.2.2⟩ (fun hS => ?_)
        refine tM 0 rfl hS ?_; try simp only [jX]
        refine tM 1 (v := (.bool false)) rfl hS ?_; try simp only [jX]
        refine tM 2 rfl hS ?_; try simp only [jX]
        refine sN 3 rfl hS (fun _ => ?_); try simp only [jX]
        refine sN 4 rfl hS (fun _ => ?_); try simp only [jX]
        refine sN 5 rfl hS (fun _ => ?_); try simp only [jX]
        refine sN 6 rfl hS (fun _ => ?_); try simp only [jX]
        refine sN 7 rfl hS (fun _ => ?_); try simp only [jX]
        refine sN 8 rfl hS (fun _ => ?_); try simp only [jX]
        refine sN 9 rfl hS (fun _ => ?_); try simp only [jX]
        refine sN 10 rfl hS (fun _ => ?_); try simp only [jX]
        refine sN 11 rfl hS (fun _ => ?_); try simp only [jX]
        refine tM 12 rfl hS ?_; try simp only [jX]
        refine dN (NoPanic.normal ?_)
        go_wp2
        exact ⟨⟨1, by omega, by go_num, HQ, ⟨cK (qBq) hL4.1, cK (qBq) hL4.2.1, cK (qBq) hL4.2.2⟩, qBq⟩, by simp [intOf]; omega⟩
       | succ p1 =>
        obtain ⟨f0, f1, f2, f3, f4⟩ := HPv.out p1 rfl
        rw [show p1 + 1 - 1 = p1 from rfl] at hy0
        rw [← hy0] at f0 f1 f2 f3 f4
        clear hy0 HPv
        replace f0 := cK hB4 f0
        replace f1 := cK hB4 f1
        replace f2 := cK hB4 f2
        replace f3 := cK hB4 f3
        replace f4 := cK hB4 f4
        have j1 : (0 : Int) < ((p1 + 1 : Nat) : Int) := by omega
        have j2 : (0 : Int) < (p1 : Int) + 1 := by omega
        have j3 : IntKind.i64.wrap (((p1 + 1 : Nat) : Int) - 1) = (p1 : Int) := by rw [IntKind.wrap_i64]; omega
        have j4 : IntKind.i64.wrap ((p1 : Int) + 1 - 1) = (p1 : Int) := by rw [IntKind.wrap_i64]; omega
        have j5 : (0 : Int) ≤ (p1 : Int) := by omega
        have j6 : (p1 : Int) < (mk : Int) := by omega
        have j7 : IntKind.i64.wrap (p1 : Int) = (p1 : Int) := wrapId (by omega) (by omega)
        have HE2 : Hid (zz = if decide (cmpH y h < 0) = true then 0 else 1) := by show _ = _; rw [HE.out, HD3.out]; simp
        clear HE HD3
        go_wp2
        refine wp_region_noPanic ?_
        refine region_upto (fun W => W.cell? ⟨wh, 0, none⟩ = some (.int .i64 h.con) ∧ W.cell? ⟨wh, 1, none⟩ = some (.int .i64 h.sh) ∧ W.cell? ⟨wh, 2, none⟩ = some (.int .i64 h.bal) ∧ W.cell? ⟨wh, 3, none⟩ = some (.int .i64 h.val) ∧ W.cell? ⟨wh, 4, none⟩ = some (.int .i64 h.frm) ∧ W.cell? ⟨wl, 2, none⟩ = some (.slice (some ⟨bk, ok, none⟩) mk q') ∧ W.cell? ⟨bk, ok + p1 * 5, none⟩ = some (.int .i64 y.con) ∧ W.cell? ⟨bk, ok + p1 * 5 + 1, none⟩ = some (.int .i64 y.sh) ∧ W.cell? ⟨bk, ok + p1 * 5 + 2, none⟩ = some (.int .i64 y.bal) ∧ W.cell? ⟨bk, ok + p1 * 5 + 3, none⟩ = some (.int .i64 y.val) ∧ W.cell? ⟨bk, ok + p1 * 5 + 4, none⟩ = some (.int .i64 y.frm)) 13 (by kernel_rfl) ⟨cK (qBq) hx4.1, cK (qBq) hx4.2.1, cK (qBq) hx4.2.2.1, cK (qBq) hx4.2.2.2.1, cK (qBq) hx4.2.2.2.2, cK (qBq) hL4.2.2, cK (qBq) f0, cK (qBq) f1, cK (qBq) f2, cK (qBq) f3, cK (qBq) f4⟩ (fun hS => ?_)
        refine tM 0 rfl hS ?_; try simp only [jX]
        refine tM 1 (v := (.bool true)) rfl hS ?_; try simp only [jX]
        refine tM 2 rfl hS ?_; try simp only [jX]
        refine tM 3 rfl hS ?_; try simp only [jX]
        refine tM 4 rfl hS ?_; try simp only [jX]
        refine tM 5 rfl hS ?_; try simp only [jX]
        refine tM 6 rfl hS ?_; try simp only [jX]
        refine tM 7 rfl hS ?_; try simp only [jX]
        refine tM 8 rfl hS ?_; try simp only [jX]
        refine tM 9 rfl hS ?_; try simp only [jX]
        refine uS 10 rfl (fun K hK => ?_)
        go_simp
        refine (l11Before_any y h _).mono ?_
        rintro e w5 ⟨rfl, hb5⟩
        have hB5 : Below w.heap.size w w5 := bS (qBq) hb5
        have hS5 := And.intro (cK hb5 hS.1) (And.intro (cK hb5 hS.2.1) (And.intro (cK hb5 hS.2.2.1) (And.intro (cK hb5 hS.2.2.2.1) (And.intro (cK hb5 hS.2.2.2.2.1) (And.intro (cK hb5 hS.2.2.2.2.2.1) (And.intro (cK hb5 hS.2.2.2.2.2.2.1) (And.intro (cK hb5 hS.2.2.2.2.2.2.2.1) (And.intro (cK hb5 hS.2.2.2.2.2.2.2.2.1) (And.intro (cK hb5 hS.2.2.2.2.2.2.2.2.2.1) (cK hb5 hS.2.2.2.2.2.2.2.2.2.2))))))))))
        have hL5 := And.intro (cK hb5 (cK (qBq) hL4.1)) (And.intro (cK hb5 (cK (qBq) hL4.2.1)) (cK hb5 (cK (qBq) hL4.2.2)))
        refine hK _ _ (fun _ => hS5) ?_
        clear hK K hb5
        try simp only [jX]
        generalize decide (cmpH y h < 0) = ah at *
        cases ah
        ·
         have hz : zz = 1 := by rw [HE2.out]; rfl
         clear HE2
         refine tM 11 rfl hS5 ?_; try simp only [jX]
         refine tM 12 rfl hS5 ?_; try simp only [jX]
         have HC : Hid (R = 1) := HBad.out 1 (by omega) (hz)
         clear HBad HGo
         refine dN (NoPanic.normal ?_)
         go_wp2; go_ret
         exact ⟨by rw [HC.out]; rfl, hB5⟩
        ·
         have hz : zz = 0 := by rw [HE2.out]; rfl
         have HQ : Hid _ := HGo.out hz
         clear HGo HBad HE2 hz
         refine tM 11 rfl hS5 ?_; try simp only [jX]
         refine tM 12 rfl hS5 ?_; try simp only [jX]
         refine dN (NoPanic.normal ?_)
         go_wp2
         exact ⟨⟨p1 + 1 + 1, by omega, by go_num, HQ, hL5, hB5⟩, by simp [intOf]; omega⟩
      ·
       obtain rfl : j = mk := by omega
       have hti2 : ¬ (j : Int) < (j : Int) := by omega
       have HQ : Hid (scanI (fun k => ldrA c (c.ldrs.getD k default)) (k + 1) = 0) := HEnd.out HS2.out
       clear HEnd HBadK HKn
       go_wp2
       exact ⟨⟨k + 1, by omega, by go_num, HQ, hblw⟩, by simp [intOf]; omega⟩
  ·
   obtain rfl : k = n3 := by omega
   have hti : ¬ (k : Int) < (k : Int) := by omega
   have HC : Hid (R = 0) := H2.out HS.out
   go_wp2; go_ret
   exact ⟨by rw [HC.out]; rfl, hbl⟩
end Go.Proofs.YtackhljepbhpgaaGreat

namespace Go.Proofs.YtackhljepbhpgaaGreat
open Go.RowKit
variable [DecidableEq Rw] [Inhabited Rw] [DecidableEq Bal] [Inhabited Bal] [DecidableEq Ledg] [Inhabited Ledg] [DecidableEq Leg] [Inhabited Leg] [DecidableEq Cont] [Inhabited Cont] [DecidableEq LedgR] [Inhabited LedgR] [DecidableEq OutcR] [Inhabited OutcR] [DecidableEq Mrk] [Inhabited Mrk] [DecidableEq Shd] [Inhabited Shd] [DecidableEq ShdR] [Inhabited ShdR]
attribute [local go_sem ↓] Go.wp_at_zero Go.wp_at_succ

theorem l10IsHeld_any (x : Value) (d : Shd) (c : Int) (w : World) (hx : shdR.V w x d) :
  Calls Tryz.prog 179 #[x, .int .i64 c] w fun e w' => e = .returned (.bool (heldIn d.held c)) ∧ Below w.heap.size w w' := by
 obtain ⟨u1, u2, u3, u4, u5, rfl, _, _, hx, _, _⟩ := hx
 obtain ⟨ax, cx, rfl, hcx, hmx, hx⟩ := conts_at hx
 unfold maxLen at hmx
 obtain ⟨idx, _, _, xs, _, _⟩ := d
 dsimp only at hcx hx ⊢
 have HS0 : Hid (∀ k, k < xs.length → heldIn (xs.take (k + 1)) c = (heldIn (xs.take k) c || decide ((xs.getD k default).id = c))) := fun k hk => heldIn_take hk
 have HE : Hid (heldIn (xs.take xs.length) c = heldIn xs c) := by show _ = _; rw [List.take_length]
 have HT : Hid (∀ k, k < xs.length → (xs.getD k default).id = c → heldIn xs c = true) := fun k hk h => heldIn_mem.2 ⟨k, hk, h⟩
 generalize hn' : xs.length = n at *
 clear hn'
 go_enter Tryz.func179, Tryz.ntmps179
 go_wp2
 go_loopw [5] (fun i w' => ∃ k : Nat, k ≤ n ∧ i = .int .i64 k ∧ Hid (heldIn (xs.take k) c = false) ∧ w'.cell? ⟨w.heap.size, 3, none⟩ = some (.slice ax n cx) ∧ Below w.heap.size w w') (fun i _ => n - (intOf i).toNat)
 case atStart => exact ⟨0, Nat.zero_le _, rfl, by show heldIn (xs.take 0) c = false; simp [heldIn], by simp [go_sem], qBq⟩
 case round =>
  obtain ⟨k, hk, rfl, HS, hq, hbl⟩ := hrel
  have zq : w.heap.size < wr.heap.size := wL wr _ hq
  by_cases hlt : k < n
  ·
   obtain ⟨bx, ox, pp, qq, rfl, g0, g1, _⟩ := hx k hlt
   have h1 := HS0.out k hlt
   have h2 := HT.out k hlt
   generalize (xs.getD k default).legs.length = ll at *
   generalize (xs.getD k default).id = q at *
   have H1 : Hid (heldIn (xs.take (k + 1)) c = (heldIn (xs.take k) c || decide (q = c))) := h1
   have H2 : Hid (q = c → heldIn xs c = true) := h2
   clear hx h1 h2
   replace g0 := cK hbl g0
   by_cases he : q = c
   ·
    have HC := H2.out he
    have he' : (q == c) = true := by simp [he]
    clear H1 HS H2
    go_wp2; go_ret
    exact ⟨by rw [HC]; rfl, qBq⟩
   ·
    have HC : Hid (heldIn (xs.take (k + 1)) c = false) := by show _ = _; rw [H1.out, HS.out, decide_eq_false he]; rfl
    have he' : (q == c) = false := by simp [he]
    clear H1 HS H2
    go_wp2
    exact ⟨⟨k + 1, by omega, by go_num, HC, hq, qBq⟩, by simp [intOf]; omega⟩
  ·
   have hkn : k = n := by omega
   subst hkn
   have HC : Hid (heldIn xs c = false) := by show _ = _; rw [← HE.out, HS.out]
   go_wp2; go_ret
   exact ⟨by rw [HC.out]; rfl, qBq⟩
theorem any_take {α : Type} [Inhabited α] (f : α → Bool) {xs : List α} {k : Nat} (hk : k < xs.length) : (xs.take (k + 1)).any f = ((xs.take k).any f || f (xs.getD k default)) := by
 have e : xs.take (k + 1) = xs.take k ++ [xs.getD k default] := by rw [List.take_add_one]; simp [List.getD, hk]
 rw [e, List.any_append]
 simp
theorem any_at {α : Type} [Inhabited α] {f : α → Bool} {xs : List α} {k : Nat} (hk : k < xs.length) (h : f (xs.getD k default) = true) : xs.any f = true := List.any_eq_true.2 ⟨xs.getD k default, by simp [List.getD, hk], h⟩
theorem l10Touch_any (x y : Value) (xs ys : List Leg) (w : World) (hx : legsR.V w x xs) (hy : legsR.V w y ys) :
  Calls Tryz.prog 181 #[x, y] w fun e w' => e = .returned (.bool (touch xs ys)) ∧ Below w.heap.size w w' := by
 obtain ⟨ax, cx, rfl, hcx, hmx, hx⟩ := hx
 obtain ⟨ay, cy, rfl, hcy, hmy, hy⟩ := hy
 unfold maxLen at hmx hmy
 have HT : Hid (∀ i j, i < xs.length → j < ys.length → sameAA (xs.getD i default) (ys.getD j default) = true → touch xs ys = true) := fun i j hi hj h => any_at hi (any_at hj h)
 have HO : Hid (∀ i, i < xs.length → ((xs.take i).any (fun x => ys.any (fun y => sameAA x y))) = false → ys.any (fun y => sameAA (xs.getD i default) y) = false → ((xs.take (i + 1)).any (fun x => ys.any (fun y => sameAA x y))) = false) := fun i hi h1 h2 => by rw [any_take _ hi, h1, h2]; rfl
 have HI : Hid (∀ i j, j < ys.length → ((ys.take j).any (fun y => sameAA (xs.getD i default) y)) = false → sameAA (xs.getD i default) (ys.getD j default) = false → ((ys.take (j + 1)).any (fun y => sameAA (xs.getD i default) y)) = false) := fun i j hj h1 h2 => by rw [any_take _ hj, h1, h2]; rfl
 have HE1 : Hid (((xs.take xs.length).any (fun x => ys.any (fun y => sameAA x y))) = touch xs ys) := by show _ = _; rw [List.take_length]; rfl
 have HE2 : Hid (∀ i, ((ys.take ys.length).any (fun y => sameAA (xs.getD i default) y)) = ys.any (fun y => sameAA (xs.getD i default) y)) := fun i => by rw [List.take_length]
 generalize hn' : xs.length = n at *
 generalize hm' : ys.length = m at *
 clear hn' hm'
 go_enter Tryz.func181, Tryz.ntmps181
 go_wp2
 go_loopw [5] (fun i w' => ∃ k : Nat, k ≤ n ∧ i = .int .i64 k ∧ Hid (((xs.take k).any (fun x => ys.any (fun y => sameAA x y))) = false) ∧ Below w.heap.size w w') (fun i _ => n - (intOf i).toNat)
 case atStart => exact ⟨0, Nat.zero_le _, rfl, by show ((xs.take 0).any _) = false; simp, Below.refl _ _⟩
 case round =>
  obtain ⟨k, hk, rfl, HS, hbl⟩ := hrel
  by_cases hlt : k < n
  ·
   go_wp2
   go_loopw [6] (fun i w' => ∃ j : Nat, j ≤ m ∧ i = .int .i64 j ∧ Hid (((ys.take j).any (fun y => sameAA (xs.getD k default) y)) = false) ∧ Below w.heap.size w w') (fun i _ => m - (intOf i).toNat)
   case atStart => exact ⟨0, Nat.zero_le _, rfl, by show ((ys.take 0).any _) = false; simp, hbl⟩
   case round =>
    rename_i wq
    obtain ⟨j, hj, rfl, HS2, hbl2⟩ := hrel
    by_cases hlt2 : j < m
    ·
     obtain ⟨bx, ox, rfl, g1⟩ := hx k hlt
     obtain ⟨by_, oy, rfl, g2⟩ := hy j hlt2
     have h1 := HT.out k j hlt hlt2
     have h2 := HI.out k j hlt2 HS2.out
     obtain ⟨l, hl⟩ : ∃ l, l = xs.getD k default := ⟨_, rfl⟩
     rw [← hl] at g1
     obtain ⟨l', hl'⟩ : ∃ l', l' = ys.getD j default := ⟨_, rfl⟩
     rw [← hl'] at g2
     have H1 : Hid (sameAA l l' = true → touch xs ys = true) := by rw [hl, hl']; exact h1
     have H2 : Hid (sameAA l l' = false → ((ys.take (j + 1)).any (fun y => sameAA (xs.getD k default) y)) = false) := by rw [hl, hl']; exact h2
     clear hl hl' h1 h2 hx hy
     have ga := (legKeep hbl2 g1).2
     obtain ⟨a0, a1, a2, a3⟩ := ga
     have gb := (legKeep hbl2 g2).2
     obtain ⟨c0, c1, c2, c3⟩ := gb
     have k1 : (k : Int) < n := by omega
     have k2 : (0 : Int) ≤ k := by omega
     have j1 : (j : Int) < m := by omega
     have j2 : (0 : Int) ≤ j := by omega
     by_cases e1 : l.ac = l'.ac
     ·
      have e1' : (l.ac == l'.ac) = true := by simp [e1]
      by_cases e2 : l.ast = l'.ast
      ·
       have e2' : (l.ast == l'.ast) = true := by simp [e2]
       have HC := H1.out (by unfold sameAA; rw [e1', e2']; rfl)
       clear e1 e2
       go_wp2
       go_quiet (fail)
       go_wp2; go_ret
       exact ⟨by rw [HC]; rfl, bdrewN hbl2 _⟩
      ·
       have e2' : (l.ast == l'.ast) = false := by simp [e2]
       have HC : Hid (((ys.take (j + 1)).any (fun y => sameAA (xs.getD k default) y)) = false) := H2.out (by unfold sameAA; rw [e1', e2']; rfl)
       clear e1 e2
       go_wp2
       go_quiet (fail)
       go_wp2
       exact ⟨⟨j + 1, by omega, by go_num, HC, bdrewN hbl2 _⟩, by simp [intOf]; omega⟩
     ·
      have e1' : (l.ac == l'.ac) = false := by simp [e1]
      have HC : Hid (((ys.take (j + 1)).any (fun y => sameAA (xs.getD k default) y)) = false) := H2.out (by unfold sameAA; rw [e1']; rfl)
      clear e1
      go_wp2
      go_quiet (fail)
      go_wp2
      exact ⟨⟨j + 1, by omega, by go_num, HC, bdrewN hbl2 _⟩, by simp [intOf]; omega⟩
    ·
     have hjm : j = m := by omega
     subst hjm
     have HC : Hid (((xs.take (k + 1)).any (fun x => ys.any (fun y => sameAA x y))) = false) := HO.out k hlt HS.out (by rw [← HE2.out]; exact HS2.out)
     go_wp2
     exact ⟨⟨k + 1, by omega, by go_num, HC, qBq⟩, by simp [intOf]; omega⟩
  ·
   have hkn : k = n := by omega
   subst hkn
   have HC : Hid (touch xs ys = false) := by show _ = _; rw [← HE1.out, HS.out]
   go_wp2; go_ret
   exact ⟨by rw [HC.out]; rfl, qBq⟩
theorem l1Has_any (x : Value) (xs : List Int) (c : Int) (w : World) (hx : IntsV w x xs) :
  Calls Tryz.prog 125 #[x, .int .i64 c] w fun e w' => e = .returned (.bool (decide (c ∈ xs))) ∧ w' = w := by
 obtain ⟨ax, cx, rfl, hcx, hmx, hx⟩ := hx
 unfold maxLen at hmx
 have HT : Hid (∀ k, k < xs.length → xs.getD k 0 = c → decide (c ∈ xs) = true) := fun k hk h => decide_eq_true (by rw [← h]; simp [List.getD, hk])
 have HS0 : Hid (∀ k, k < xs.length → ¬ c ∈ xs.take k → ¬ xs.getD k 0 = c → ¬ c ∈ xs.take (k + 1)) := fun k hk h1 h2 => by
  rw [List.take_add_one]
  intro h
  rw [List.mem_append] at h
  rcases h with h | h
  ·
   exact h1 h
  ·
   simp [hk] at h
   exact h2 (by simp [List.getD, hk, h])
 have HE : Hid (¬ c ∈ xs.take xs.length → decide (c ∈ xs) = false) := fun h => decide_eq_false (by rw [List.take_length] at h; exact h)
 generalize hn' : xs.length = n at *
 clear hn'
 go_enter Tryz.func125, Tryz.ntmps125
 go_wp2
 go_loopw [5] (fun i w' => ∃ k : Nat, k ≤ n ∧ i = .int .i64 k ∧ Hid (¬ c ∈ xs.take k) ∧ Hid (w' = w)) (fun i _ => n - (intOf i).toNat)
 case atStart => exact ⟨0, Nat.zero_le _, rfl, by show ¬ c ∈ xs.take 0; simp, rfl⟩
 case round =>
  obtain ⟨k, hk, rfl, HS, HW⟩ := hrel
  by_cases hlt : k < n
  ·
   obtain ⟨bx, ox, rfl, g1⟩ := hx k hlt
   have h1 := HT.out k hlt
   have h2 := HS0.out k hlt HS.out
   generalize xs.getD k 0 = q at *
   have H1 : Hid (q = c → decide (c ∈ xs) = true) := h1
   have H2 : Hid (¬ q = c → ¬ c ∈ xs.take (k + 1)) := h2
   clear hx h1 h2
   rw [← HW.out] at g1
   by_cases he : q = c
   ·
    have HC := H1.out he
    have he' : (q == c) = true := by simp [he]
    clear H1 HS H2
    go_wp2; go_ret
    exact ⟨by rw [HC]; rfl, HW.out⟩
   ·
    have HC : Hid _ := H2.out he
    have he' : (q == c) = false := by simp [he]
    clear H1 HS H2
    go_wp2
    exact ⟨⟨k + 1, by omega, by go_num, HC, HW⟩, by simp [intOf]; omega⟩
  ·
   have hkn : k = n := by omega
   subst hkn
   have HC := HE.out HS.out
   go_wp2; go_ret
   exact ⟨by rw [HC]; rfl, HW.out⟩
theorem IntsV_take {w : World} {a : Option Addr} {n c k : Nat} {xs : List Int} (hx : IntsV w (.slice a n c) xs) (hk : k ≤ n) : IntsV w (.slice a k c) (xs.take k) := by
 obtain ⟨a', c', e, h1, h2, h3⟩ := hx
 simp only [Value.slice.injEq] at e
 obtain ⟨rfl, rfl, rfl⟩ := e
 refine ⟨a, c, by rw [List.length_take, Nat.min_eq_left hk], by rw [List.length_take]; omega, h2, fun i hi => ?_⟩
 rw [List.length_take] at hi
 obtain ⟨b, o, e, hc⟩ := h3 i (by omega)
 refine ⟨b, o, e, ?_⟩
 rw [hc]
 simp [List.getD, List.getElem?_take, show i < k by omega]
theorem l10Applied_any (x : Value) (d : Shd) (w : World) (hx : shdR.V w x d) :
  Calls Tryz.prog 180 #[x] w fun e w' => e = .returned (.bool (applG d.done d.appl)) ∧ Below w.heap.size w w' := by
 obtain ⟨u1, u2, u3, u4, u5, rfl, h1, h2, h3, h4, h5⟩ := hx
 obtain ⟨idx, bs, vs, hs, ds, as_⟩ := d
 dsimp only at h1 h2 h3 h4 h5 ⊢
 have HFi : Hid (∀ W c, Below w.heap.size w W → Calls Tryz.prog 40 #[u4, .int .i64 c] W fun e w' => e = .returned (.int .i64 (findM c ds)) ∧ Below W.heap.size W w') := fun W c hW => l10Find_any u4 ds c W (mrksR.below h4 hW)
 obtain ⟨a1, c1, rfl⟩ := bals_form h1
 obtain ⟨a2, c2, rfl⟩ := mrks_form h2
 obtain ⟨a3, c3, rfl⟩ := conts_form h3
 obtain ⟨a4, c4, rfl, hc4, hm4, hx4⟩ := h4
 have HIV : Hid (∀ W k, Below w.heap.size w W → k ≤ as_.length → ∀ a c, u5 = .slice a as_.length c → IntsV W (.slice a k c) (as_.take k)) := fun W k hW hk a c e => IntsV_take (IntsV_below (by rw [← e]; exact h5) hW) hk
 obtain ⟨a5, c5, rfl, hc5, hm5, hx5⟩ := h5
 unfold maxLen at hm4 hm5
 have HHa : Hid (∀ W k c, Below w.heap.size w W → k ≤ as_.length → Calls Tryz.prog 125 #[.slice a5 k c5, .int .i64 c] W fun e w' => e = .returned (.bool (decide (c ∈ as_.take k))) ∧ w' = W) := fun W k c hW hk => l1Has_any _ _ c W (HIV.out W k hW hk a5 c5 rfl)
 have HX5 : Hid (∀ i, i < as_.length → ∃ b o, a5 = some ⟨b, o, none⟩ ∧ w.cell? ⟨b, o + i, none⟩ = some (.int .i64 (as_.getD i 0))) := hx5
 have HDs : Hid (∀ k, k < ds.length → doneL (ds.take (k + 1)) = if (ds.getD k default).val = 1 then doneL (ds.take k) ++ [(ds.getD k default).con] else doneL (ds.take k)) := fun k hk => doneL_snoc hk
 have HDe : Hid (doneL (ds.take ds.length) = doneL ds) := by show _ = _; rw [List.take_length]
 have HDl : Hid (∀ k, (doneL (ds.take k)).length ≤ k) := fun k => Nat.le_trans (doneL_le _) (by rw [List.length_take]; omega)
 have HB1 : Hid (∀ k, k < as_.length → ¬ findM (as_.getD k 0) ds = 1 → applG ds as_ = false) := fun k hk h => by unfold applG; exact decide_eq_false (fun h2 => h (h2.2 k hk).1)
 have HB2 : Hid (∀ k, k < as_.length → as_.getD k 0 ∈ as_.take k → applG ds as_ = false) := fun k hk h => by unfold applG; exact decide_eq_false (fun h2 => (h2.2 k hk).2 h)
 have HOk : Hid ((∀ k, k < as_.length → findM (as_.getD k 0) ds = 1 ∧ ¬ as_.getD k 0 ∈ as_.take k) → applG ds as_ = decide ((doneL ds).length = as_.length)) := fun h => by unfold applG; rw [decide_eq_decide]; exact ⟨fun h2 => h2.1, fun h2 => ⟨h2, h⟩⟩
 clear h1 h2 h3 hx5 HIV
 generalize bs.length = n1 at *
 generalize vs.length = n2 at *
 generalize hs.length = n3 at *
 generalize hn4 : ds.length = n4 at *
 generalize hn5 : as_.length = n5 at *
 clear hn4 hn5
 go_enter Tryz.func180, Tryz.ntmps180
 go_wp2
 go_loopw [3, 4] (fun q i w' => ∃ k m : Nat, k ≤ n4 ∧ q = .int .i64 m ∧ i = .int .i64 k ∧ Hid ((doneL (ds.take k)).length = m) ∧ (w'.cell? ⟨w.heap.size, 4, none⟩ = some (.slice a4 n4 c4) ∧ w'.cell? ⟨w.heap.size, 5, none⟩ = some (.slice a5 n5 c5)) ∧ Below w.heap.size w w') (fun q i _ => n4 - (intOf i).toNat)
 case atStart => exact ⟨0, 0, Nat.zero_le _, rfl, rfl, by show (doneL (ds.take 0)).length = 0; simp [doneL], by simp [go_sem], qBq⟩
 case round =>
  obtain ⟨k, m, hk, rfl, rfl, HM, ⟨y4, y5⟩, hbl⟩ := hrel
  have zq : w.heap.size < wr.heap.size := wL wr _ y4
  by_cases hlt : k < n4
  ·
   obtain ⟨bx, ox, rfl, g1⟩ := hx4 k hlt
   have h1 := HDs.out k hlt
   have hl := HDl.out k
   obtain ⟨l, hl'⟩ : ∃ l, l = ds.getD k default := ⟨_, rfl⟩
   rw [← hl'] at g1 h1
   have H1 : Hid (doneL (ds.take (k + 1)) = if l.val = 1 then doneL (ds.take k) ++ [l.con] else doneL (ds.take k)) := h1
   clear hl' h1 hx4
   obtain ⟨g2, g3⟩ := mrkCells_below hbl g1
   have hmk : m ≤ k := by rw [← HM.out]; exact hl
   by_cases he : l.val = 1
   ·
    have he' : (l.val == 1) = true := by simp [he]
    have HC : Hid ((doneL (ds.take (k + 1))).length = m + 1) := by show _ = _; rw [H1.out, if_pos he, List.length_append, HM.out]; rfl
    clear H1 HM hl
    rw [he] at g3
    go_wp2
    exact ⟨⟨k + 1, m + 1, by omega, by go_num, by go_num, HC, ⟨y4, y5⟩, qBq⟩, by simp [intOf]; omega⟩
   ·
    have he' : (l.val == 1) = false := by simp [he]
    have HC : Hid ((doneL (ds.take (k + 1))).length = m) := by show _ = _; rw [H1.out, if_neg he, HM.out]
    clear H1 HM hl
    go_wp2
    exact ⟨⟨k + 1, m, by omega, rfl, by go_num, HC, ⟨y4, y5⟩, qBq⟩, by simp [intOf]; omega⟩
  ·
   have hkn : k = n4 := by omega
   subst hkn
   have HMm : Hid ((doneL ds).length = m) := by show _ = _; rw [← HDe.out]; exact HM.out
   clear HM hx4 HDs HDl HDe
   go_wp2
   obtain ⟨w2, hw2⟩ : ∃ w2, w2 = wr := ⟨_, rfl⟩
   rw [← hw2] at hbl y4 y5 zq ⊢
   clear hw2
   go_loopw [5] (fun i w' => ∃ j : Nat, j ≤ n5 ∧ i = .int .i64 j ∧ Hid (∀ i, i < j → findM (as_.getD i 0) ds = 1 ∧ ¬ as_.getD i 0 ∈ as_.take i) ∧ Below w2.heap.size w2 w') (fun i _ => n5 - (intOf i).toNat)
   case atStart => exact ⟨0, Nat.zero_le _, rfl, fun i hi => absurd hi (Nat.not_lt_zero _), Below.refl _ _⟩
   case round =>
    rename_i wq
    obtain ⟨j, hj, rfl, HA, hb2⟩ := hrel
    replace y4 := cK hb2 y4
    replace y5 := cK hb2 y5
    have hBr : Below w.heap.size w wr := bS hbl hb2
    have zq2 : w.heap.size < wr.heap.size := wL wr _ y4
    by_cases hlt2 : j < n5
    ·
     obtain ⟨bx, ox, rfl, g1⟩ := HX5.out j hlt2
     have h1 := HB1.out j hlt2
     have h2 := HB2.out j hlt2
     have h3 : Hid (findM (as_.getD j 0) ds = 1 → ¬ as_.getD j 0 ∈ as_.take j → ∀ i, i < j + 1 → findM (as_.getD i 0) ds = 1 ∧ ¬ as_.getD i 0 ∈ as_.take i) := fun q1 q2 i hi => by
      by_cases e : i = j
      ·
       rw [e]; exact ⟨q1, q2⟩
      ·
       exact HA.out i (by omega)
     replace g1 := cK hBr g1
     generalize as_.getD j 0 = q at *
     have H1 : Hid (¬ findM q ds = 1 → applG ds as_ = false) := h1
     have H2 : Hid (q ∈ as_.take j → applG ds as_ = false) := h2
     clear h1 h2
     have k1 : (j : Int) < n5 := by omega
     have k2 : (0 : Int) ≤ j := by omega
     have k3 : (j : Int) ≤ n5 := by omega
     have k4 : (j : Int) ≤ c5 := by omega
     have HFq : Hid (∀ W, Below wr.heap.size wr W → Calls Tryz.prog 40 #[.slice a4 k c4, .int .i64 q] W fun e w' => e = .returned (.int .i64 (findM q ds)) ∧ Below W.heap.size W w') := fun W hW => HFi.out W q (bS hBr hW)
     have HHq : Hid (∀ W, Below wr.heap.size wr W → Calls Tryz.prog 125 #[.slice (some ⟨bx, ox, none⟩) j c5, .int .i64 q] W fun e w' => e = .returned (.bool (decide (q ∈ as_.take j))) ∧ w' = W) := fun W hW => HHa.out W j q (bS hBr hW) (by omega)
     generalize findM q ds = f at *
     by_cases hf : f = 1
     ·
      have hf' : (f != 1) = false := by simp [hf]
      rw [hf] at HFq h3
      clear H1 hf hf'
      cases hin : decide (q ∈ as_.take j)
      ·
       have HA2 : Hid (∀ i, i < j + 1 → findM (as_.getD i 0) ds = 1 ∧ ¬ as_.getD i 0 ∈ as_.take i) := h3.out rfl (of_decide_eq_false hin)
       rw [hin] at HHq
       clear hin H2 h3
       go_wp2
       refine wp_region_noPanic ?_
       refine region_upto (fun W => Below wr.heap.size wr W ∧ W.cell? ⟨w.heap.size, 4, none⟩ = some (.slice a4 k c4) ∧ W.cell? ⟨w.heap.size, 5, none⟩ = some (.slice (some ⟨bx, ox, none⟩) n5 c5) ∧ W.cell? ⟨bx, ox + j, none⟩ = some (.int .i64 q)) 21 (by kernel_rfl) ⟨qBq, cK (qBq) y4, cK (qBq) y5, cK (qBq) g1⟩ (fun hS => ?_)
       refine tM 0 rfl hS ?_; try simp only [jX]
       refine tM 1 rfl hS ?_; try simp only [jX]
       refine tM 2 rfl hS ?_; try simp only [jX]
       refine tM 3 rfl hS ?_; try simp only [jX]
       refine tM 4 rfl hS ?_; try simp only [jX]
       refine tM 5 rfl hS ?_; try simp only [jX]
       refine tM 6 rfl hS ?_; try simp only [jX]
       refine uS 7 rfl (fun K hK => ?_)
       go_simp
       refine (HFq.out _ hS.1).mono ?_
       rintro e wz ⟨rfl, hbz⟩
       have hbz' : Below wr.heap.size wr wz := bS hS.1 hbz
       have hS3 := And.intro hbz' (And.intro (cK hbz hS.2.1) (And.intro (cK hbz hS.2.2.1) (cK hbz hS.2.2.2)))
       refine hK _ _ (fun _ => hS3) ?_
       clear hK K hS hbz
       have hS := hS3
       clear hS3
       try simp only [jX]
       refine tM 8 (v := (.bool false)) rfl hS ?_; try simp only [jX]
       refine tM 9 (v := (.bool false)) rfl hS ?_; try simp only [jX]
       refine tM 10 rfl hS ?_; try simp only [jX]
       refine tM 11 rfl hS ?_; try simp only [jX]
       refine tM 12 rfl hS ?_; try simp only [jX]
       refine tM 13 rfl hS ?_; try simp only [jX]
       refine tM 14 rfl hS ?_; try simp only [jX]
       refine tM 15 rfl hS ?_; try simp only [jX]
       refine tM 16 rfl hS ?_; try simp only [jX]
       refine tM 17 rfl hS ?_; try simp only [jX]
       refine tM 18 rfl hS ?_; try simp only [jX]
       refine uS 19 rfl (fun K hK => ?_)
       go_simp
       refine (HHq.out _ hS.1).mono ?_
       rintro e wy ⟨rfl, hwy⟩
       obtain rfl := hwy.symm
       refine hK _ _ (fun _ => hS) ?_
       clear hK K hwy
       try simp only [jX]
       refine tM 20 (v := (.bool false)) rfl hS ?_; try simp only [jX]
       refine dN (NoPanic.normal ?_)
       go_wp2
       exact ⟨⟨j + 1, by omega, by go_num, HA2, bS hb2 hS.1⟩, by simp [intOf]; omega⟩
      ·
       have HC := H2.out (of_decide_eq_true hin)
       rw [hin] at HHq
       clear hin H2 h3
       go_wp2
       refine wp_region_noPanic ?_
       refine region_upto (fun W => Below wr.heap.size wr W ∧ W.cell? ⟨w.heap.size, 4, none⟩ = some (.slice a4 k c4) ∧ W.cell? ⟨w.heap.size, 5, none⟩ = some (.slice (some ⟨bx, ox, none⟩) n5 c5) ∧ W.cell? ⟨bx, ox + j, none⟩ = some (.int .i64 q)) 21 (by kernel_rfl) ⟨qBq, cK (qBq) y4, cK (qBq) y5, cK (qBq) g1⟩ (fun hS => ?_)
       refine tM 0 rfl hS ?_; try simp only [jX]
       refine tM 1 rfl hS ?_; try simp only [jX]
       refine tM 2 rfl hS ?_; try simp only [jX]
       refine tM 3 rfl hS ?_; try simp only [jX]
       refine tM 4 rfl hS ?_; try simp only [jX]
       refine tM 5 rfl hS ?_; try simp only [jX]
       refine tM 6 rfl hS ?_; try simp only [jX]
       refine uS 7 rfl (fun K hK => ?_)
       go_simp
       refine (HFq.out _ hS.1).mono ?_
       rintro e wz ⟨rfl, hbz⟩
       have hbz' : Below wr.heap.size wr wz := bS hS.1 hbz
       have hS3 := And.intro hbz' (And.intro (cK hbz hS.2.1) (And.intro (cK hbz hS.2.2.1) (cK hbz hS.2.2.2)))
       refine hK _ _ (fun _ => hS3) ?_
       clear hK K hS hbz
       have hS := hS3
       clear hS3
       try simp only [jX]
       refine tM 8 (v := (.bool false)) rfl hS ?_; try simp only [jX]
       refine tM 9 (v := (.bool false)) rfl hS ?_; try simp only [jX]
       refine tM 10 rfl hS ?_; try simp only [jX]
       refine tM 11 rfl hS ?_; try simp only [jX]
       refine tM 12 rfl hS ?_; try simp only [jX]
       refine tM 13 rfl hS ?_; try simp only [jX]
       refine tM 14 rfl hS ?_; try simp only [jX]
       refine tM 15 rfl hS ?_; try simp only [jX]
       refine tM 16 rfl hS ?_; try simp only [jX]
       refine tM 17 rfl hS ?_; try simp only [jX]
       refine tM 18 rfl hS ?_; try simp only [jX]
       refine uS 19 rfl (fun K hK => ?_)
       go_simp
       refine (HHq.out _ hS.1).mono ?_
       rintro e wy ⟨rfl, hwy⟩
       obtain rfl := hwy.symm
       refine hK _ _ (fun _ => hS) ?_
       clear hK K hwy
       try simp only [jX]
       refine tM 20 (v := (.bool true)) rfl hS ?_; try simp only [jX]
       refine dN (NoPanic.normal ?_)
       go_wp2; go_ret
       exact ⟨by rw [HC]; rfl, bS hBr hS.1⟩
     ·
      have HC := H1.out hf
      have hf' : (f != 1) = true := by simp [hf]
      clear H1 H2 h3 hf HHq
      go_wp2
      refine wp_region_noPanic ?_
      refine region_upto (fun W => Below wr.heap.size wr W ∧ W.cell? ⟨w.heap.size, 4, none⟩ = some (.slice a4 k c4) ∧ W.cell? ⟨w.heap.size, 5, none⟩ = some (.slice (some ⟨bx, ox, none⟩) n5 c5) ∧ W.cell? ⟨bx, ox + j, none⟩ = some (.int .i64 q)) 21 (by kernel_rfl) ⟨qBq, cK (qBq) y4, cK (qBq) y5, cK (qBq) g1⟩ (fun hS => ?_)
      refine tM 0 rfl hS ?_; try simp only [jX]
      refine tM 1 rfl hS ?_; try simp only [jX]
      refine tM 2 rfl hS ?_; try simp only [jX]
      refine tM 3 rfl hS ?_; try simp only [jX]
      refine tM 4 rfl hS ?_; try simp only [jX]
      refine tM 5 rfl hS ?_; try simp only [jX]
      refine tM 6 rfl hS ?_; try simp only [jX]
      refine uS 7 rfl (fun K hK => ?_)
      go_simp
      refine (HFq.out _ hS.1).mono ?_
      rintro e wz ⟨rfl, hbz⟩
      have hbz' : Below wr.heap.size wr wz := bS hS.1 hbz
      have hS3 := And.intro hbz' (And.intro (cK hbz hS.2.1) (And.intro (cK hbz hS.2.2.1) (cK hbz hS.2.2.2)))
      refine hK _ _ (fun _ => hS3) ?_
      clear hK K hS hbz
      have hS := hS3
      clear hS3
      try simp only [jX]
      refine tM 8 (v := (.bool true)) rfl hS ?_; try simp only [jX]
      refine tM 9 (v := (.bool true)) rfl hS ?_; try simp only [jX]
      refine sU 10 rfl hS ?_; try simp only [jX]
      refine sU 11 rfl hS ?_; try simp only [jX]
      refine sU 12 rfl hS ?_; try simp only [jX]
      refine sU 13 rfl hS ?_; try simp only [jX]
      refine sU 14 rfl hS ?_; try simp only [jX]
      refine sU 15 rfl hS ?_; try simp only [jX]
      refine sU 16 rfl hS ?_; try simp only [jX]
      refine sU 17 rfl hS ?_; try simp only [jX]
      refine sU 18 rfl hS ?_; try simp only [jX]
      refine sU 19 rfl hS ?_; try simp only [jX]
      refine tM 20 (v := (.bool true)) rfl hS ?_; try simp only [jX]
      refine dN (NoPanic.normal ?_)
      go_wp2; go_ret
      exact ⟨by rw [HC]; rfl, bS hBr hS.1⟩
    ·
     have hjn : j = n5 := by omega
     subst hjn
     have HC := HOk.out HA.out
     rw [HMm.out] at HC
     have hcmp : ((m : Int) == (j : Int)) = decide (m = j) := by rw [Bool.eq_iff_iff]; simp; omega
     rw [← hcmp] at HC
     clear hcmp
     go_wp2; go_ret
     exact ⟨by rw [HC]; rfl, qBq⟩
end Go.Proofs.YtackhljepbhpgaaGreat

