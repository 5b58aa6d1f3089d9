import Derived.BigQuiet
import Derived.Deep.QuietTactic
import Derived.Deep.RegionHeld3
import Derived.Recover
import Derived.WalkLawsBesides
import Derived.Shelf.Abstract
import Derived.Test.YtackhljepbhpgaaGreatShD
set_option maxHeartbeats 8000000
set_option maxRecDepth 20000
set_option linter.unusedSimpArgs false
set_option linter.unusedVariables false
set_option linter.unusedSectionVars false

namespace Go.Proofs.YtackhljepbhpgaaGreat
open Go.RowKit
variable [DecidableEq Leg] [Inhabited Leg] [DecidableEq Cont] [Inhabited Cont] [DecidableEq Bal] [Inhabited Bal] [DecidableEq Mrk] [Inhabited Mrk] [DecidableEq Shd] [Inhabited Shd] [DecidableEq Vot] [Inhabited Vot] [DecidableEq Slt] [Inhabited Slt] [DecidableEq Acc] [Inhabited Acc] [DecidableEq Trr] [Inhabited Trr] [DecidableEq Hrd] [Inhabited Hrd] [DecidableEq Ldr] [Inhabited Ldr] [DecidableEq Msg] [Inhabited Msg] [DecidableEq Clu] [Inhabited Clu] [DecidableEq Ledg] [Inhabited Ledg] [DecidableEq SltR] [Inhabited SltR] [DecidableEq AccR] [Inhabited AccR] [DecidableEq AccsR] [Inhabited AccsR] [DecidableEq SltsR] [Inhabited SltsR] [DecidableEq Rw] [Inhabited Rw] [DecidableEq LedgR] [Inhabited LedgR] [DecidableEq OutcR] [Inhabited OutcR] [DecidableEq ShdR] [Inhabited ShdR]
attribute [local go_sem ↓] Go.wp_at_zero Go.wp_at_succ

theorem msgs_atF {w : World} {a : Option Addr} {n c : Nat} {xs : List Msg} (hx : msgsR.V w (.slice a n c) xs) : xs.length = n ∧ n ≤ c ∧ c ≤ maxLen ∧ ∀ k, k < n → ∃ b o, a = some ⟨b, o, none⟩ ∧ w.cell? ⟨b, o + k * 9, none⟩ = some (.int .i64 (xs.getD k default).kind) ∧ w.cell? ⟨b, o + k * 9 + 1, none⟩ = some (.int .i64 (xs.getD k default).to) ∧ w.cell? ⟨b, o + k * 9 + 2, none⟩ = some (.int .i64 (xs.getD k default).frm) ∧ w.cell? ⟨b, o + k * 9 + 3, none⟩ = some (.int .i64 (xs.getD k default).con) ∧ w.cell? ⟨b, o + k * 9 + 4, none⟩ = some (.int .i64 (xs.getD k default).sh) ∧ w.cell? ⟨b, o + k * 9 + 5, none⟩ = some (.int .i64 (xs.getD k default).bal) ∧ w.cell? ⟨b, o + k * 9 + 6, none⟩ = some (.int .i64 (xs.getD k default).val) ∧ w.cell? ⟨b, o + k * 9 + 7, none⟩ = some (.int .i64 (xs.getD k default).ob) ∧ w.cell? ⟨b, o + k * 9 + 8, none⟩ = some (.int .i64 (xs.getD k default).ov) := by
 obtain ⟨a', c', e, h1, h2, h3⟩ := hx
 simp only [Value.slice.injEq] at e
 obtain ⟨rfl, rfl, rfl⟩ := e
 exact ⟨rfl, h1, h2, fun k hk => h3 k hk⟩
theorem messagesF_any (x : Value) (c : Clu) (w : World) (hx : cluR.V w x c) :
  Calls Tryz.prog 53 #[x] w fun e w' => e = .returned (.int .i64 (msgsF c)) ∧ Below w.heap.size w w' := by
 have HV : Hid (∀ W, Below w.heap.size w W → cluR.V W x c) := fun W hW => cluR.below hx hW
 have hx' := hx
 obtain ⟨a0, a1, a2, a3, a4, c0, c1, c2, c3, c4, n0, n1, n2, n3, n4, rfl, e0, e1, e2, e3, e4, L0, L1, L2, L3, L4⟩ := clu_formN hx
 obtain ⟨u1, u2, u3, u4, u5, eq, h1, h2, h3, h4, h5⟩ := hx'
 simp only [Value.agg.injEq, Array.mk.injEq, List.cons.injEq, and_true] at eq
 obtain ⟨rfl, rfl, rfl, rfl, rfl⟩ := eq
 obtain ⟨_, hnc, hmc, HA⟩ := msgs_atF h5
 unfold maxLen at hmc
 have HX : Hid _ := HA
 clear HA h1 h2 h3 h4 h5 hx
 have H1 : Hid (∀ k, k < n4 → scanI (fun k => msgF c (c.msgs.getD k default)) k = 0 → ¬ msgF c (c.msgs.getD k default) = 0 → msgsF c = msgF c (c.msgs.getD k default)) := fun k hk hs h0 => by unfold msgsF; exact scanI_hit (f := fun k => msgF c (c.msgs.getD k default)) hs h0 _ (by rw [e4]; exact hk)
 have H2 : Hid (scanI (fun k => msgF c (c.msgs.getD k default)) n4 = 0 → msgsF c = 0) := fun h => by unfold msgsF; rw [e4]; exact h
 clear e0 e1 e2 e3 e4 L0 L1 L2 L3
 generalize msgsF c = R at *
 go_enter Tryz.func53, Tryz.ntmps53
 go_wp2
 go_loopw [9] (fun i w' => ∃ k : Nat, k ≤ n4 ∧ i = .int .i64 k ∧ Hid (scanI (fun k => msgF c (c.msgs.getD k default)) k = 0) ∧ (w'.cell? ⟨w.heap.size, 0, none⟩ = some (.slice a0 n0 c0) ∧ w'.cell? ⟨w.heap.size, 1, none⟩ = some (.slice a1 n1 c1) ∧ w'.cell? ⟨w.heap.size, 2, none⟩ = some (.slice a2 n2 c2) ∧ w'.cell? ⟨w.heap.size, 3, none⟩ = some (.slice a3 n3 c3) ∧ w'.cell? ⟨w.heap.size, 4, none⟩ = some (.slice a4 n4 c4)) ∧ Below w.heap.size w w') (fun i _ => n4 - (intOf i).toNat)
 case atStart => exact ⟨0, Nat.zero_le _, rfl, rfl, ⟨by simp [go_sem], by simp [go_sem], by simp [go_sem], by simp [go_sem], by simp [go_sem]⟩, qBq⟩
 case round =>
  obtain ⟨k, hk, rfl, HS, ⟨y0, y1, y2, y3, y4⟩, hbl⟩ := hrel
  have zq : w.heap.size < wr.heap.size := wL wr _ y0
  by_cases hlt : k < n4
  ·
   have HA := HX.out k hlt
   have HH : Hid (¬ msgF c (c.msgs.getD k default) = 0 → R = msgF c (c.msgs.getD k default)) := fun h => H1.out k hlt HS.out h
   have HZ : Hid (msgF c (c.msgs.getD k default) = 0 → scanI (fun k => msgF c (c.msgs.getD k default)) (k + 1) = 0) := fun h => scanI_succ (f := fun k => msgF c (c.msgs.getD k default)) HS.out h
   obtain ⟨m, hm0⟩ : ∃ m, m = c.msgs.getD k default := ⟨_, rfl⟩
   rw [← hm0] at HA HH HZ
   clear hm0
   obtain ⟨b, o, rfl, g0, g1, g2, g3, g4, g5, g6, g7, g8⟩ := HA
   have HF : Hid (∀ W, Below w.heap.size w W → Calls Tryz.prog 106 #[.agg #[.slice a0 n0 c0, .slice a1 n1 c1, .slice a2 n2 c2, .slice a3 n3 c3, .slice (some ⟨b, o, none⟩) n4 c4], .agg #[.int .i64 m.kind, .int .i64 m.to, .int .i64 m.frm, .int .i64 m.con, .int .i64 m.sh, .int .i64 m.bal, .int .i64 m.val, .int .i64 m.ob, .int .i64 m.ov]] W fun e w' => e = .returned (.int .i64 (msgF c m)) ∧ Below W.heap.size W w') := fun W hW => implMsg_any _ c m W (HV.out W hW)
   replace g0 := cK hbl g0
   replace g1 := cK hbl g1
   replace g2 := cK hbl g2
   replace g3 := cK hbl g3
   replace g4 := cK hbl g4
   replace g5 := cK hbl g5
   replace g6 := cK hbl g6
   replace g7 := cK hbl g7
   replace g8 := cK hbl g8
   have zb : b < wr.heap.size := wL wr _ g0
   have hti : (k : Int) < (n4 : Int) := by omega
   generalize msgF c m = z at *
   obtain ⟨m0, m1, m2, m3, m4, m5, m6, m7, m8⟩ := m
   dsimp only at HF g0 g1 g2 g3 g4 g5 g6 g7 g8
   go_wp2_with fail
   refine (HF.out _ (qBq)).mono ?_
   rintro e w1 ⟨rfl, hb1⟩
   have hB1 : Below w.heap.size w w1 := bS (qBq) hb1
   have Y1 := And.intro (cK hb1 (cK (qBq) y0)) (And.intro (cK hb1 (cK (qBq) y1)) (And.intro (cK hb1 (cK (qBq) y2)) (And.intro (cK hb1 (cK (qBq) y3)) (cK hb1 (cK (qBq) y4)))))
   clear hb1 HF g0 g1 g2 g3 g4 g5 g6 g7 g8
   by_cases hz : z = 0
   ·
    have HQ : Hid _ := HZ.out hz
    subst hz
    clear HH HZ
    go_wp2
    exact ⟨⟨k + 1, by omega, by go_num, HQ, Y1, hB1⟩, by simp [intOf]; omega⟩
   ·
    have HC : Hid _ := HH.out hz
    have hz' : (z != 0) = true := by simp [hz]
    clear HH HZ
    go_wp2; go_ret
    exact ⟨by rw [HC.out]; rfl, hB1⟩
  ·
   obtain rfl : k = n4 := by omega
   have hti : ¬ (k : Int) < (k : Int) := by omega
   have HC : Hid (R = 0) := H2.out HS.out
   go_wp2; go_ret
   exact ⟨by rw [HC.out]; rfl, hbl⟩
theorem indexMf_any (gf : Nat) (P Q : Value) (pb : Mrk → Bool) (x : Value) (xs : List Mrk) (w : World) (hx : mrksR.V w x xs) (eg : ∀ args w, (callFunc gf args).run Tryz.prog w = .ok (.enter gf args) w) (hp : (∀ k W, k < xs.length → Below w.heap.size w W → Calls Tryz.prog gf #[mrkV (xs.getD k default), P, Q] W fun e w' => e = .returned (.bool (pb (xs.getD k default))) ∧ Below W.heap.size W w')) :
  Calls Tryz.prog 197 #[x, .func (.func gf) #[] #[P, Q]] w fun e w' => (∃ r : Int, e = .returned (.int .i64 r) ∧ ((r = -1 ∧ xs.any pb = false) ∨ (0 ≤ r ∧ xs.any pb = true))) ∧ Below w.heap.size w w' := by
 obtain ⟨ax, cx, rfl, hcx, hmx, hx⟩ := hx
 unfold maxLen at hmx
 have HX : Hid (∀ i, i < xs.length → ∃ b o, ax = some ⟨b, o, none⟩ ∧ mrkCells w b (o + i * 2) (xs.getD i default)) := hx
 clear hx
 have HHit : Hid (∀ j, j < xs.length → pb (xs.getD j default) = true → xs.any pb = true) := fun j hj h => by
  show _ = _
  rw [List.any_eq_true]
  exact ⟨xs.getD j default, by simp [List.getD, hj], h⟩
 have HNo : Hid ((∀ j, j < xs.length → pb (xs.getD j default) = false) → xs.any pb = false) := fun h => by
  show _ = _
  rw [List.any_eq_false]
  intro y hy
  obtain ⟨i, hi, rfl⟩ := List.getElem_of_mem hy
  have := h i hi
  simp only [List.getD, List.getElem?_eq_getElem hi, Option.getD_some] at this
  rw [this]
  simp
 have HP : Hid (∀ k W, k < xs.length → Below w.heap.size w W → Calls Tryz.prog gf #[mrkV (xs.getD k default), P, Q] W fun e w' => e = .returned (.bool (pb (xs.getD k default))) ∧ Below W.heap.size W w') := hp
 clear hp
 generalize hA : xs.any pb = A at *
 clear hA
 generalize hn' : xs.length = n at *
 clear hn'
 go_enter Tryz.func197, Tryz.ntmps197
 go_wp2
 go_loopw [8] (fun i w' => ∃ k' : Nat, k' ≤ n ∧ i = .int .i64 k' ∧ Hid (∀ j, j < k' → pb (xs.getD j default) = false) ∧ Below w.heap.size w w') (fun i _ => n - (intOf i).toNat)
 case atStart => exact ⟨0, Nat.zero_le _, rfl, fun j hj => absurd hj (Nat.not_lt_zero _), Below.refl _ _⟩
 case round =>
  obtain ⟨j, hk, rfl, HS, hbl⟩ := hrel
  by_cases hlt : j < n
  ·
   have HA := HX.out j hlt
   have hP := HP.out j
   have HH := HHit.out j hlt
   have HLs : Hid (pb (xs.getD j default) = false → ∀ i, i < j + 1 → pb (xs.getD i default) = false) := fun h i hi => by
    by_cases e : i = j
    ·
     rw [e]; exact h
    ·
     exact HS.out i (by omega)
   obtain ⟨l, hl0⟩ : ∃ l, l = xs.getD j default := ⟨_, rfl⟩
   rw [← hl0] at HA hP HH HLs
   clear hl0
   obtain ⟨b, o, rfl, g0, g1⟩ := HA
   have HC : Hid (∀ W, Below w.heap.size w W → Calls Tryz.prog gf #[.agg #[.int .i64 l.con, .int .i64 l.val], P, Q] W fun e w' => e = .returned (.bool (pb l)) ∧ Below W.heap.size W w') := fun W hW => hP W hlt hW 
   have HH' : Hid (pb l = true → A = true) := HH
   clear hP HH
   skip
   replace g0 := cK hbl g0
   replace g1 := cK hbl g1
   have hti : (j : Int) < (n : Int) := by omega
   generalize pb l = z at *
   go_wp2_with fail
   refine (HC.out _ (qBq)).mono ?_
   rintro e w1 ⟨rfl, hb1⟩
   have hB := bS hbl hb1
   clear hb1 HC g0 g1
   cases z
   ·
    have HQ : Hid _ := HLs.out rfl
    clear HLs HH'
    go_wp2
    exact ⟨⟨j + 1, by omega, by go_num, HQ, hB⟩, by simp [intOf]; omega⟩
   ·
    have HQ : Hid (A = true) := HH'.out rfl
    clear HLs HH'
    go_wp2; go_ret
    exact ⟨⟨j, rfl, .inr ⟨by omega, HQ.out⟩⟩, hB⟩
  ·
   obtain rfl : j = n := by omega
   have hti : ¬ (j : Int) < (j : Int) := by omega
   have HQ : Hid (A = false) := HNo.out HS.out
   go_wp2; go_ret
   exact ⟨⟨-1, rfl, .inl ⟨rfl, HQ.out⟩⟩, hbl⟩
theorem containsMf_any (gf : Nat) (P Q : Value) (pb : Mrk → Bool) (x : Value) (xs : List Mrk) (w : World) (hx : mrksR.V w x xs) (eg : ∀ args w, (callFunc gf args).run Tryz.prog w = .ok (.enter gf args) w) (hp : (∀ k W, k < xs.length → Below w.heap.size w W → Calls Tryz.prog gf #[mrkV (xs.getD k default), P, Q] W fun e w' => e = .returned (.bool (pb (xs.getD k default))) ∧ Below W.heap.size W w')) :
  Calls Tryz.prog 144 #[x, .func (.func gf) #[] #[P, Q]] w fun e w' => e = .returned (.bool (xs.any pb)) ∧ Below w.heap.size w w' := by
 have HI : Hid (Calls Tryz.prog 197 #[x, .func (.func gf) #[] #[P, Q]] w fun e w' => (∃ r : Int, e = .returned (.int .i64 r) ∧ ((r = -1 ∧ xs.any pb = false) ∨ (0 ≤ r ∧ xs.any pb = true))) ∧ Below w.heap.size w w') := indexMf_any gf P Q pb x xs w hx eg hp
 clear hp eg
 obtain ⟨ax, cx, rfl, _⟩ := hx
 generalize xs.any pb = A at *
 go_enter Tryz.func144, Tryz.ntmps144
 go_wp2_with fail
 refine HI.out.mono ?_
 rintro e w1 ⟨⟨r, rfl, hr⟩, hb1⟩
 clear HI
 rcases hr with ⟨rfl, hr⟩ | ⟨hr0, hr⟩
 all_goals
  subst hr
  go_wp2; go_ret
  exact ⟨rfl, hb1⟩
theorem indexCf_any (gf : Nat) (P : Value) (pb : Cont → Bool) (x : Value) (xs : List Cont) (w : World) (hx : contsR.V w x xs) (eg : ∀ args w, (callFunc gf args).run Tryz.prog w = .ok (.enter gf args) w) (hp : (∀ k W, k < xs.length → Below w.heap.size w W → ∀ item, contR.V W item (xs.getD k default) → Calls Tryz.prog gf #[item, P] W fun e w' => e = .returned (.bool (pb (xs.getD k default))) ∧ Below W.heap.size W w')) :
  Calls Tryz.prog 54 #[x, .func (.func gf) #[] #[P]] w fun e w' => (∃ r : Int, e = .returned (.int .i64 r) ∧ ((r = -1 ∧ xs.any pb = false) ∨ (0 ≤ r ∧ xs.any pb = true))) ∧ Below w.heap.size w w' := by
 obtain ⟨ax, cx, rfl, hcx, hmx, hx⟩ := conts_at hx
 unfold maxLen at hmx
 have HX : Hid _ := hx
 clear hx
 have HHit : Hid (∀ j, j < xs.length → pb (xs.getD j default) = true → xs.any pb = true) := fun j hj h => by
  show _ = _
  rw [List.any_eq_true]
  exact ⟨xs.getD j default, by simp [List.getD, hj], h⟩
 have HNo : Hid ((∀ j, j < xs.length → pb (xs.getD j default) = false) → xs.any pb = false) := fun h => by
  show _ = _
  rw [List.any_eq_false]
  intro y hy
  obtain ⟨i, hi, rfl⟩ := List.getElem_of_mem hy
  have := h i hi
  simp only [List.getD, List.getElem?_eq_getElem hi, Option.getD_some] at this
  rw [this]
  simp
 have HP : Hid (∀ k W, k < xs.length → Below w.heap.size w W → ∀ item, contR.V W item (xs.getD k default) → Calls Tryz.prog gf #[item, P] W fun e w' => e = .returned (.bool (pb (xs.getD k default))) ∧ Below W.heap.size W w') := hp
 clear hp
 generalize hA : xs.any pb = A at *
 clear hA
 generalize hn' : xs.length = n at *
 clear hn'
 go_enter Tryz.func54, Tryz.ntmps54
 go_wp2
 go_loopw [8] (fun i w' => ∃ k' : Nat, k' ≤ n ∧ i = .int .i64 k' ∧ Hid (∀ j, j < k' → pb (xs.getD j default) = false) ∧ Below w.heap.size w w') (fun i _ => n - (intOf i).toNat)
 case atStart => exact ⟨0, Nat.zero_le _, rfl, fun j hj => absurd hj (Nat.not_lt_zero _), Below.refl _ _⟩
 case round =>
  obtain ⟨j, hk, rfl, HS, hbl⟩ := hrel
  by_cases hlt : j < n
  ·
   have HA := HX.out j hlt
   have hP := HP.out j
   have HH := HHit.out j hlt
   have HLs : Hid (pb (xs.getD j default) = false → ∀ i, i < j + 1 → pb (xs.getD i default) = false) := fun h i hi => by
    by_cases e : i = j
    ·
     rw [e]; exact h
    ·
     exact HS.out i (by omega)
   obtain ⟨l, hl0⟩ : ∃ l, l = xs.getD j default := ⟨_, rfl⟩
   rw [← hl0] at HA hP HH HLs
   clear hl0
   obtain ⟨b, o, p, q, rfl, g0, g1, hl⟩ := HA
   have HC : Hid (∀ W, Below w.heap.size w W → Calls Tryz.prog gf #[.agg #[.int .i64 l.id, .slice p l.legs.length q], P] W fun e w' => e = .returned (.bool (pb l)) ∧ Below W.heap.size W w') := fun W hW => hP W hlt hW _ (contR.below hl hW)
   have HH' : Hid (pb l = true → A = true) := HH
   clear hP HH
   clear hl
   replace g0 := cK hbl g0
   replace g1 := cK hbl g1
   have hti : (j : Int) < (n : Int) := by omega
   generalize pb l = z at *
   go_wp2_with fail
   refine (HC.out _ (qBq)).mono ?_
   rintro e w1 ⟨rfl, hb1⟩
   have hB := bS hbl hb1
   clear hb1 HC g0 g1
   cases z
   ·
    have HQ : Hid _ := HLs.out rfl
    clear HLs HH'
    go_wp2
    exact ⟨⟨j + 1, by omega, by go_num, HQ, hB⟩, by simp [intOf]; omega⟩
   ·
    have HQ : Hid (A = true) := HH'.out rfl
    clear HLs HH'
    go_wp2; go_ret
    exact ⟨⟨j, rfl, .inr ⟨by omega, HQ.out⟩⟩, hB⟩
  ·
   obtain rfl : j = n := by omega
   have hti : ¬ (j : Int) < (j : Int) := by omega
   have HQ : Hid (A = false) := HNo.out HS.out
   go_wp2; go_ret
   exact ⟨⟨-1, rfl, .inl ⟨rfl, HQ.out⟩⟩, hbl⟩
theorem containsCf_any (gf : Nat) (P : Value) (pb : Cont → Bool) (x : Value) (xs : List Cont) (w : World) (hx : contsR.V w x xs) (eg : ∀ args w, (callFunc gf args).run Tryz.prog w = .ok (.enter gf args) w) (hp : (∀ k W, k < xs.length → Below w.heap.size w W → ∀ item, contR.V W item (xs.getD k default) → Calls Tryz.prog gf #[item, P] W fun e w' => e = .returned (.bool (pb (xs.getD k default))) ∧ Below W.heap.size W w')) :
  Calls Tryz.prog 145 #[x, .func (.func gf) #[] #[P]] w fun e w' => e = .returned (.bool (xs.any pb)) ∧ Below w.heap.size w w' := by
 have HI : Hid (Calls Tryz.prog 54 #[x, .func (.func gf) #[] #[P]] w fun e w' => (∃ r : Int, e = .returned (.int .i64 r) ∧ ((r = -1 ∧ xs.any pb = false) ∨ (0 ≤ r ∧ xs.any pb = true))) ∧ Below w.heap.size w w') := indexCf_any gf P pb x xs w hx eg hp
 clear hp eg
 obtain ⟨ax, cx, rfl, _⟩ := hx
 generalize xs.any pb = A at *
 go_enter Tryz.func145, Tryz.ntmps145
 go_wp2_with fail
 refine HI.out.mono ?_
 rintro e w1 ⟨⟨r, rfl, hr⟩, hb1⟩
 clear HI
 rcases hr with ⟨rfl, hr⟩ | ⟨hr0, hr⟩
 all_goals
  subst hr
  go_wp2; go_ret
  exact ⟨rfl, hb1⟩
theorem indexSf_any (gf : Nat) (P : Value) (pb : Slt → Bool) (x : Value) (xs : List Slt) (w : World) (hx : sltsR.V w x xs) (eg : ∀ args w, (callFunc gf args).run Tryz.prog w = .ok (.enter gf args) w) (hp : (∀ k W, k < xs.length → Below w.heap.size w W → ∀ u, Calls Tryz.prog gf #[.agg #[.int .i64 (xs.getD k default).con, .int .i64 (xs.getD k default).sh, .int .i64 (xs.getD k default).pr, .int .i64 (xs.getD k default).lb, .int .i64 (xs.getD k default).lv, u], P] W fun e w' => e = .returned (.bool (pb (xs.getD k default))) ∧ Below W.heap.size W w')) :
  Calls Tryz.prog 150 #[x, .func (.func gf) #[] #[P]] w fun e w' => (∃ r : Int, e = .returned (.int .i64 r) ∧ ((r = -1 ∧ xs.any pb = false) ∨ (0 ≤ r ∧ xs.any pb = true))) ∧ Below w.heap.size w w' := by
 obtain ⟨ax, cx, rfl, hcx, hmx, hx⟩ := hx
 unfold maxLen at hmx
 have HX : Hid (∀ k, k < xs.length → ∃ b o u, ax = some ⟨b, o, none⟩ ∧ w.cell? ⟨b, o + k * 6, none⟩ = some (.int .i64 (xs.getD k default).con) ∧ w.cell? ⟨b, o + k * 6 + 1, none⟩ = some (.int .i64 (xs.getD k default).sh) ∧ w.cell? ⟨b, o + k * 6 + 2, none⟩ = some (.int .i64 (xs.getD k default).pr) ∧ w.cell? ⟨b, o + k * 6 + 3, none⟩ = some (.int .i64 (xs.getD k default).lb) ∧ w.cell? ⟨b, o + k * 6 + 4, none⟩ = some (.int .i64 (xs.getD k default).lv) ∧ w.cell? ⟨b, o + k * 6 + 5, none⟩ = some (u)) := fun k hk => by
  obtain ⟨b, o, u, e, _, p, hv⟩ := hx k hk
  obtain ⟨s, rfl, hc⟩ := hv
  obtain ⟨au, cu, rfl⟩ := vots_form hc
  exact ⟨b, o, _, e, p 0 (by omega), p 1 (by omega), p 2 (by omega), p 3 (by omega), p 4 (by omega), p 5 (by omega)⟩
 clear hx
 have HHit : Hid (∀ j, j < xs.length → pb (xs.getD j default) = true → xs.any pb = true) := fun j hj h => by
  show _ = _
  rw [List.any_eq_true]
  exact ⟨xs.getD j default, by simp [List.getD, hj], h⟩
 have HNo : Hid ((∀ j, j < xs.length → pb (xs.getD j default) = false) → xs.any pb = false) := fun h => by
  show _ = _
  rw [List.any_eq_false]
  intro y hy
  obtain ⟨i, hi, rfl⟩ := List.getElem_of_mem hy
  have := h i hi
  simp only [List.getD, List.getElem?_eq_getElem hi, Option.getD_some] at this
  rw [this]
  simp
 have HP : Hid (∀ k W, k < xs.length → Below w.heap.size w W → ∀ u, Calls Tryz.prog gf #[.agg #[.int .i64 (xs.getD k default).con, .int .i64 (xs.getD k default).sh, .int .i64 (xs.getD k default).pr, .int .i64 (xs.getD k default).lb, .int .i64 (xs.getD k default).lv, u], P] W fun e w' => e = .returned (.bool (pb (xs.getD k default))) ∧ Below W.heap.size W w') := hp
 clear hp
 generalize hA : xs.any pb = A at *
 clear hA
 generalize hn' : xs.length = n at *
 clear hn'
 go_enter Tryz.func150, Tryz.ntmps150
 go_wp2
 go_loopw [8] (fun i w' => ∃ k' : Nat, k' ≤ n ∧ i = .int .i64 k' ∧ Hid (∀ j, j < k' → pb (xs.getD j default) = false) ∧ Below w.heap.size w w') (fun i _ => n - (intOf i).toNat)
 case atStart => exact ⟨0, Nat.zero_le _, rfl, fun j hj => absurd hj (Nat.not_lt_zero _), Below.refl _ _⟩
 case round =>
  obtain ⟨j, hk, rfl, HS, hbl⟩ := hrel
  by_cases hlt : j < n
  ·
   have HA := HX.out j hlt
   have hP := HP.out j
   have HH := HHit.out j hlt
   have HLs : Hid (pb (xs.getD j default) = false → ∀ i, i < j + 1 → pb (xs.getD i default) = false) := fun h i hi => by
    by_cases e : i = j
    ·
     rw [e]; exact h
    ·
     exact HS.out i (by omega)
   obtain ⟨l, hl0⟩ : ∃ l, l = xs.getD j default := ⟨_, rfl⟩
   rw [← hl0] at HA hP HH HLs
   clear hl0
   obtain ⟨b, o, u, rfl, g0, g1, g2, g3, g4, g5⟩ := HA
   have HC : Hid (∀ W, Below w.heap.size w W → Calls Tryz.prog gf #[.agg #[.int .i64 l.con, .int .i64 l.sh, .int .i64 l.pr, .int .i64 l.lb, .int .i64 l.lv, u], P] W fun e w' => e = .returned (.bool (pb l)) ∧ Below W.heap.size W w') := fun W hW => hP W hlt hW u
   have HH' : Hid (pb l = true → A = true) := HH
   clear hP HH
   skip
   replace g0 := cK hbl g0
   replace g1 := cK hbl g1
   replace g2 := cK hbl g2
   replace g3 := cK hbl g3
   replace g4 := cK hbl g4
   replace g5 := cK hbl g5
   have hti : (j : Int) < (n : Int) := by omega
   generalize pb l = z at *
   go_wp2_with fail
   refine (HC.out _ (qBq)).mono ?_
   rintro e w1 ⟨rfl, hb1⟩
   have hB := bS hbl hb1
   clear hb1 HC g0 g1 g2 g3 g4 g5
   cases z
   ·
    have HQ : Hid _ := HLs.out rfl
    clear HLs HH'
    go_wp2
    exact ⟨⟨j + 1, by omega, by go_num, HQ, hB⟩, by simp [intOf]; omega⟩
   ·
    have HQ : Hid (A = true) := HH'.out rfl
    clear HLs HH'
    go_wp2; go_ret
    exact ⟨⟨j, rfl, .inr ⟨by omega, HQ.out⟩⟩, hB⟩
  ·
   obtain rfl : j = n := by omega
   have hti : ¬ (j : Int) < (j : Int) := by omega
   have HQ : Hid (A = false) := HNo.out HS.out
   go_wp2; go_ret
   exact ⟨⟨-1, rfl, .inl ⟨rfl, HQ.out⟩⟩, hbl⟩
theorem containsSf_any (gf : Nat) (P : Value) (pb : Slt → Bool) (x : Value) (xs : List Slt) (w : World) (hx : sltsR.V w x xs) (eg : ∀ args w, (callFunc gf args).run Tryz.prog w = .ok (.enter gf args) w) (hp : (∀ k W, k < xs.length → Below w.heap.size w W → ∀ u, Calls Tryz.prog gf #[.agg #[.int .i64 (xs.getD k default).con, .int .i64 (xs.getD k default).sh, .int .i64 (xs.getD k default).pr, .int .i64 (xs.getD k default).lb, .int .i64 (xs.getD k default).lv, u], P] W fun e w' => e = .returned (.bool (pb (xs.getD k default))) ∧ Below W.heap.size W w')) :
  Calls Tryz.prog 98 #[x, .func (.func gf) #[] #[P]] w fun e w' => e = .returned (.bool (xs.any pb)) ∧ Below w.heap.size w w' := by
 have HI : Hid (Calls Tryz.prog 150 #[x, .func (.func gf) #[] #[P]] w fun e w' => (∃ r : Int, e = .returned (.int .i64 r) ∧ ((r = -1 ∧ xs.any pb = false) ∨ (0 ≤ r ∧ xs.any pb = true))) ∧ Below w.heap.size w w') := indexSf_any gf P pb x xs w hx eg hp
 clear hp eg
 obtain ⟨ax, cx, rfl, _⟩ := hx
 generalize xs.any pb = A at *
 go_enter Tryz.func98, Tryz.ntmps98
 go_wp2_with fail
 refine HI.out.mono ?_
 rintro e w1 ⟨⟨r, rfl, hr⟩, hb1⟩
 clear HI
 rcases hr with ⟨rfl, hr⟩ | ⟨hr0, hr⟩
 all_goals
  subst hr
  go_wp2; go_ret
  exact ⟨rfl, hb1⟩
end Go.Proofs.YtackhljepbhpgaaGreat

namespace Go.Proofs.YtackhljepbhpgaaGreat
open Go.RowKit
variable [DecidableEq Rw] [Inhabited Rw] [DecidableEq Bal] [Inhabited Bal] [DecidableEq Ledg] [Inhabited Ledg] [DecidableEq Leg] [Inhabited Leg] [DecidableEq Cont] [Inhabited Cont] [DecidableEq LedgR] [Inhabited LedgR] [DecidableEq OutcR] [Inhabited OutcR] [DecidableEq Mrk] [Inhabited Mrk] [DecidableEq Shd] [Inhabited Shd] [DecidableEq ShdR] [Inhabited ShdR]
attribute [local go_sem ↓] Go.wp_at_zero Go.wp_at_succ

def refV (c : Int) : Value := .iface 211 (.int .i64 c)
def KeepE (c : Int) (w : World) (e : Ending) (w' : World) : Prop := ((c = 0 ∧ e = .returned (.tuple #[])) ∨ (¬ c = 0 ∧ e = .panicked [{ v := refV c, recovered := false }])) ∧ Below w.heap.size w w'
def apartC (idx : Int) (hs : List Cont) (ls : List Leg) : Int := if apartB idx hs ls = true then 7 else 0
theorem keepApart_any (idx id : Int) (y ul : Value) (hs : List Cont) (ls : List Leg) (w : World) (hy : contsR.V w y hs) (hl : legsR.V w ul ls) (hn : ls.length ≤ 1000) :
  Calls Tryz.prog 140 #[.int .i64 idx, y, .agg #[.int .i64 id, ul]] w (KeepE (apartC idx hs ls) w) := by
 have HLe : Hid (∀ W, Below w.heap.size w W → Calls Tryz.prog 108 #[ul, .int .i64 idx] W fun e w' => ∃ v, e = .returned v ∧ w'.ownsRow W.heap.size 152 4 v (onSh idx ls).length (legsC (onSh idx ls)) ∧ Below W.heap.size W w') := fun W hW => legsOn_any ul ls idx W (legsR.below hl hW) (by omega)
 obtain ⟨al, cl, rfl⟩ := legs_form hl
 obtain ⟨ay, cy, rfl, hcy, hmy, hy⟩ := conts_at hy
 unfold maxLen at hmy
 have HY : Hid (∀ k, k < hs.length → ∃ b o p q, ay = some ⟨b, o, none⟩ ∧ w.cell? ⟨b, o + k * 2, none⟩ = some (.int .i64 (hs.getD k default).id) ∧ w.cell? ⟨b, o + k * 2 + 1, none⟩ = some (.slice p (hs.getD k default).legs.length q) ∧ contR.V w (.agg #[.int .i64 (hs.getD k default).id, .slice p (hs.getD k default).legs.length q]) (hs.getD k default)) := hy
 have HT : Hid (∀ i j, i < (onSh idx ls).length → j < hs.length → hasPlace (hs.getD j default).legs ((onSh idx ls).getD i default) = true → apartC idx hs ls = 7) := fun i j hi hj h => by
  unfold apartC apartB
  rw [if_pos (any_at hi (any_at (f := fun o : Cont => hasPlace o.legs ((onSh idx ls).getD i default)) hj h))]
 have HE : Hid ((onSh idx ls).any (fun l => hs.any (fun o => hasPlace o.legs l)) = false → apartC idx hs ls = 0) := fun h => by unfold apartC apartB; rw [h]; rfl
 have HO : Hid (∀ i, i < (onSh idx ls).length → (((onSh idx ls).take i).any (fun l => hs.any (fun o => hasPlace o.legs l))) = false → hs.any (fun o => hasPlace o.legs ((onSh idx ls).getD i default)) = false → (((onSh idx ls).take (i + 1)).any (fun l => hs.any (fun o => hasPlace o.legs l))) = false) := fun i hi h1 h2 => by rw [any_take _ hi, h1, h2]; rfl
 have HI : Hid (∀ l j, j < hs.length → ((hs.take j).any (fun o => hasPlace o.legs l)) = false → hasPlace (hs.getD j default).legs l = false → ((hs.take (j + 1)).any (fun o => hasPlace o.legs l)) = false) := fun l j hj h1 h2 => by rw [any_take _ hj, h1, h2]; rfl
 have HE1 : Hid (((onSh idx ls).take (onSh idx ls).length) = onSh idx ls) := List.take_length
 have HE2 : Hid (hs.take hs.length = hs) := List.take_length
 clear hy hl
 generalize hcc : apartC idx hs ls = cc at *
 generalize hlg : onSh idx ls = lg at *
 generalize ls.length = ll at *
 clear hcc hlg hn
 generalize hm : hs.length = m at *
 clear hm
 go_enter Tryz.func140, Tryz.ntmps140
 go_wp2_with fail
 refine (HLe.out _ (qBq)).mono ?_
 rintro e w1 ⟨v, rfl, o1, hb1⟩
 have hV := LegsV_of_owns o1
 have hB1 : Below w.heap.size w w1 := bS (qBq) hb1
 obtain ⟨a1, c1, rfl, hc1, hm1, hx1⟩ := hV
 unfold maxLen at hm1
 have HX : Hid (∀ i, i < lg.length → ∃ b o, a1 = some ⟨b, o, none⟩ ∧ legCells w1 b (o + i * 4) (lg.getD i default)) := hx1
 clear o1 hb1 hx1 HLe
 obtain ⟨n, hn⟩ : ∃ n, n = lg.length := ⟨_, rfl⟩
 have HN : Hid (lg.length = n) := hn.symm
 rw [← hn] at HT HO HX hc1 HE1 ⊢
 clear hn
 go_wp2
 go_loopw [15] (fun i w' => ∃ k : Nat, k ≤ n ∧ i = .int .i64 k ∧ Hid (((lg.take k).any (fun l => hs.any (fun o => hasPlace o.legs l))) = false) ∧ Below w1.heap.size w1 w') (fun i _ => n - (intOf i).toNat)
 case atStart => exact ⟨0, Nat.zero_le _, rfl, by show ((lg.take 0).any _) = false; simp, Below.refl _ _⟩
 case round =>
  obtain ⟨k, hk, rfl, HS, hbl⟩ := hrel
  by_cases hlt : k < n
  ·
   obtain ⟨bx, ox, rfl, g1⟩ := HX.out k hlt
   have h1 := HT.out k
   have h2 := HO.out k hlt HS.out
   obtain ⟨l, hl⟩ : ∃ l, l = lg.getD k default := ⟨_, rfl⟩
   rw [← hl] at g1 h1 h2
   have H1 : Hid (∀ j, j < m → hasPlace (hs.getD j default).legs l = true → cc = 7) := fun j hj h => h1 j hlt hj h
   have H2 : Hid (hs.any (fun o => hasPlace o.legs l) = false → (((lg.take (k + 1)).any (fun l => hs.any (fun o => hasPlace o.legs l))) = false)) := h2
   clear hl h1 h2
   obtain ⟨c0, c1', c2, c3⟩ := (legKeep hbl g1).2
   have zb : bx < wr.heap.size := wL wr _ c0
   have hBr : Below w.heap.size w wr := bS hB1 hbl
   go_wp2
   obtain ⟨w2, hw2⟩ : ∃ w2, w2 = wr.alloc (.cells #[.int .i64 l.sh, .int .i64 l.ac, .int .i64 l.ast, .int .i64 l.am] 152) := ⟨_, rfl⟩
   have b0 : w2.cell? ⟨wr.heap.size, 0, none⟩ = some (.int .i64 l.sh) := by rw [hw2]; simp [go_sem]
   have b1 : w2.cell? ⟨wr.heap.size, 1, none⟩ = some (.int .i64 l.ac) := by rw [hw2]; simp [go_sem]
   have b2 : w2.cell? ⟨wr.heap.size, 2, none⟩ = some (.int .i64 l.ast) := by rw [hw2]; simp [go_sem]
   have b3 : w2.cell? ⟨wr.heap.size, 3, none⟩ = some (.int .i64 l.am) := by rw [hw2]; simp [go_sem]
   have hb2 : Below wr.heap.size wr w2 := by rw [hw2]; (repeat (first | exact bR _ _ | assumption | refine bD ?_ | refine bA ?_ _ | refine bset ?_ (by simp; omega) _ | refine bset ?_ (by simp) _ | refine bS ?_ (by assumption)))
   rw [← hw2]
   clear hw2
   have hB2 : Below w.heap.size w w2 := bS hBr hb2
   have hBw2 : Below w1.heap.size w1 w2 := bS hbl hb2
   go_loopw [21] (fun i w' => ∃ j : Nat, j ≤ m ∧ i = .int .i64 j ∧ Hid (((hs.take j).any (fun o => hasPlace o.legs l)) = false) ∧ Below w2.heap.size w2 w') (fun i _ => m - (intOf i).toNat)
   case atStart => exact ⟨0, Nat.zero_le _, rfl, by show ((hs.take 0).any _) = false; simp, Below.refl _ _⟩
   case round =>
    rename_i wq
    obtain ⟨j, hj, rfl, HS2, hbl2⟩ := hrel
    replace b0 := cK hbl2 b0
    replace b1 := cK hbl2 b1
    replace b2 := cK hbl2 b2
    replace b3 := cK hbl2 b3
    have hBq : Below w.heap.size w wr := bS hB2 hbl2
    have hB1q : Below w1.heap.size w1 wr := bS hBw2 hbl2
    by_cases hlt2 : j < m
    ·
     obtain ⟨by_, oy, pp, qq, rfl, g2, g3, hV⟩ := HY.out j hlt2
     obtain ⟨ul, hul, hvl⟩ := hV
     simp only [Value.agg.injEq, Array.mk.injEq, List.cons.injEq, and_true, true_and] at hul
     subst hul
     have HP : Hid (∀ W, Below wr.heap.size wr W → Calls Tryz.prog 167 #[.slice pp (hs.getD j default).legs.length qq, .agg #[.int .i64 l.sh, .int .i64 l.ac, .int .i64 l.ast, .int .i64 l.am]] W fun e w' => e = .returned (.bool (hasPlace (hs.getD j default).legs l)) ∧ Below W.heap.size W w') := fun W hW => hasPlaceOf_any _ _ l W (legsR.below hvl (bS hBq hW))
     have h3 := H1.out j hlt2
     have h4 := HI.out l j hlt2 HS2.out
     replace g2 := cK hBq g2
     replace g3 := cK hBq g3
     generalize hasPlace (hs.getD j default).legs l = bb at *
     have H3 : Hid (bb = true → cc = 7) := h3
     have H4 : Hid (bb = false → ((hs.take (j + 1)).any (fun o => hasPlace o.legs l)) = false) := h4
     clear h3 h4 hvl
     generalize (hs.getD j default).legs.length = lj at *
     generalize (hs.getD j default).id = ij at *
     have zy : by_ < wr.heap.size := wL wr _ g2
     have zl := wL wr _ b0
     dsimp only at zl
     go_wp2_with fail
     refine (HP.out _ (qBq)).mono ?_
     rintro e w4 ⟨rfl, hb4⟩
     have hB4 : Below w.heap.size w w4 := bS hBq (bS (qBq) hb4)
     have hB24 : Below w2.heap.size w2 w4 := bS hbl2 (bS (qBq) hb4)
     clear hb4
     cases hbb : bb
     ·
      have HC : Hid _ := H4.out hbb
      go_wp2
      exact ⟨⟨j + 1, by omega, by go_num, HC, hB24⟩, by simp [intOf]; omega⟩
     ·
      have HC := H3.out hbb
      go_wp2
      exact ⟨rfl, .inr ⟨by rw [HC]; omega, by rw [HC]; rfl⟩, hB4⟩
    ·
     have hjm : j = m := by omega
     subst hjm
     have HC : Hid (((lg.take (k + 1)).any (fun l => hs.any (fun o => hasPlace o.legs l))) = false) := H2.out (by have := HS2.out; rw [HE2.out] at this; exact this)
     go_wp2
     exact ⟨⟨k + 1, by omega, by go_num, HC, hB1q⟩, by simp [intOf]; omega⟩
  ·
   have hkn : k = n := by omega
   subst hkn
   have HC := HE.out (by have := HS.out; rw [HE1.out] at this; exact this)
   go_wp2
   go_end0
   exact ⟨.inl ⟨HC, rfl⟩, bS hB1 hbl⟩
def hereG (idx : Int) (bs : List Bal) : List (List Bal) := [if idx = 0 then bs else [], if idx = 1 then bs else [], if idx = 2 then bs else []]
theorem hereG_at {idx : Int} {bs : List Bal} (h : 0 ≤ idx ∧ idx ≤ 2) : (hereG idx bs).getD idx.toNat default = bs := by
 rcases (show idx = 0 ∨ idx = 1 ∨ idx = 2 by omega) with rfl | rfl | rfl <;> rfl
theorem hereG_ok {idx : Int} {bs : List Bal} (h : balFault bs = 0) : ledFault ⟨hereG idx bs⟩ = 0 := by
 have h0 : ∀ b : Bool, balFault (if b = true then bs else []) = 0 := fun b => by cases b <;> first | rfl | exact h
 unfold ledFault
 rw [if_neg (by show ¬ ((3 : Nat) < 1 ∨ 3 < 3); omega)]
 refine scanI_of fun k hk => ?_
 have hk3 : k < 3 := hk
 unfold ledAt hereG
 rcases (show k = 0 ∨ k = 1 ∨ k = 2 by omega) with rfl | rfl | rfl
 ·
  show balFault (if idx = 0 then bs else []) = 0; split; exact h; rfl
 ·
  show balFault (if idx = 1 then bs else []) = 0; split; exact h; rfl
 ·
  show balFault (if idx = 2 then bs else []) = 0; split; exact h; rfl
theorem base_idx {idx : Int} {bs : List Bal} (h : baseF idx bs = 0) : (0 ≤ idx ∧ idx ≤ 2) ∧ balFault bs = 0 := by
 unfold baseF at h
 split at h
 ·
  rename_i h1; exact ⟨inBi.1 h1, h⟩
 ·
  omega
theorem balsV_nil (w : World) : balsR.V w (.slice none 0 0) [] := ⟨none, 0, rfl, Nat.le_refl _, by decide, fun i hi => absurd hi (Nat.not_lt_zero _)⟩
theorem hereG_V {W : World} {G : Nat} {u0 u1 u2 : Value} {idx : Int} {bs : List Bal} (c0 : W.cell? ⟨G, 0, none⟩ = some u0) (c1 : W.cell? ⟨G, 1, none⟩ = some u1) (c2 : W.cell? ⟨G, 2, none⟩ = some u2)
  (v0 : balsR.V W u0 (if idx = 0 then bs else [])) (v1 : balsR.V W u1 (if idx = 1 then bs else [])) (v2 : balsR.V W u2 (if idx = 2 then bs else [])) : ledgR.V W (.agg #[.slice (some ⟨G, 0, none⟩) 3 3]) ⟨hereG idx bs⟩ := by
 refine ⟨_, rfl, some ⟨G, 0, none⟩, 3, rfl, Nat.le_refl _, by decide, fun i hi => ?_⟩
 have hi3 : i < 3 := hi
 rcases (show i = 0 ∨ i = 1 ∨ i = 2 by omega) with rfl | rfl | rfl
 ·
  exact ⟨G, 0, u0, rfl, rfl, fun j hj => (by obtain rfl : j = 0 := (by omega); exact c0), v0⟩
 ·
  exact ⟨G, 0, u1, rfl, rfl, fun j hj => (by obtain rfl : j = 0 := (by omega); exact c1), v1⟩
 ·
  exact ⟨G, 0, u2, rfl, rfl, fun j hj => (by obtain rfl : j = 0 := (by omega); exact c2), v2⟩
theorem makeBs3 (w : World) : (Instr.makeSlice 256 (.int .i64 3) (.int .i64 3)).run Tryz.prog w = .ok (.slice (some ⟨w.heap.size, 0, none⟩) 3 3) (w.alloc (.cells #[.slice none 0 0, .slice none 0 0, .slice none 0 0] 93)) := by kernel_rfl
theorem bookHere_any (x : Value) (d : Shd) (w : World) (hx : shdR.V w x d) (h0 : baseF d.idx d.bals = 0) :
  Calls Tryz.prog 141 #[x] w fun e w' => ∃ b, e = .returned (.agg #[.int .i64 3, .map (some b)]) ∧ w.heap.size ≤ b ∧ Book w' b 54 (bookF (hereG d.idx d.bals)) ∧ Below w.heap.size w w' := by
 obtain ⟨hi, hbf⟩ := base_idx h0
 have HBo : Hid (∀ W y, ledgR.V W y ⟨hereG d.idx d.bals⟩ → Calls Tryz.prog 195 #[y] W fun e w' => ∃ b, e = .returned (.agg #[.int .i64 3, .map (some b)]) ∧ W.heap.size ≤ b ∧ Book w' b 54 (bookF (hereG d.idx d.bals)) ∧ Below W.heap.size W w') := fun W y hy => bookOf_any y ⟨hereG d.idx d.bals⟩ W hy (hereG_ok hbf)
 obtain ⟨u1, u2, u3, u4, u5, rfl, h1, h2, h3, h4, h5⟩ := hx
 have HV : Hid (∀ W, Below w.heap.size w W → balsR.V W u1 d.bals) := fun W hW => balsR.below h1 hW
 obtain ⟨a1, c1, rfl⟩ := bals_form h1
 obtain ⟨a2, c2, rfl⟩ := mrks_form h2
 obtain ⟨a3, c3, rfl⟩ := conts_form h3
 obtain ⟨a4, c4, rfl⟩ := mrks_form h4
 obtain ⟨a5, c5, rfl⟩ := ints_form h5
 clear h1 h2 h3 h4 h5 h0 hbf
 generalize d.bals.length = n1 at *
 generalize d.votes.length = n2 at *
 generalize d.held.length = n3 at *
 generalize d.done.length = n4 at *
 generalize d.appl.length = n5 at *
 have hmk := makeBs3
 obtain ⟨bs, hbs⟩ : ∃ bs, bs = d.bals := ⟨_, rfl⟩
 rw [← hbs] at HBo HV ⊢
 clear hbs
 generalize d.idx = idx at *
 rcases (show idx = 0 ∨ idx = 1 ∨ idx = 2 by omega) with rfl | rfl | rfl
 ·
  clear hi
  go_enter Tryz.func141, Tryz.ntmps141
  go_wp2_with fail
  refine (HBo.out _ _ (hereG_V (G := w.heap.size + 2) (u0 := .slice a1 n1 c1) (u1 := .slice none 0 0) (u2 := .slice none 0 0) (by simp [go_sem]) (by simp [go_sem]) (by simp [go_sem]) ?v0 ?v1 ?v2)).mono ?_
  case v0 => first | exact HV.out _ (qBq) | exact balsV_nil _
  case v1 => first | exact HV.out _ (qBq) | exact balsV_nil _
  case v2 => first | exact HV.out _ (qBq) | exact balsV_nil _
  rintro e w1 ⟨b, rfl, hb, hbk, hb1⟩
  have hB1 : Below w.heap.size w w1 := bS (qBq) hb1
  have hz1 := hb1.size
  simp at hb hz1
  obtain ⟨c1', f1⟩ := bcell hb1
  have r0 : w1.cell? ⟨w.heap.size + 1, 0, none⟩ = some (.int .i64 0) := cK hb1 (by simp [go_sem])
  have r1 : w1.cell? ⟨w.heap.size + 1, 1, none⟩ = some (.map none) := cK hb1 (by simp [go_sem])
  have rf : ∀ o, w1.frozen? ⟨w.heap.size + 1, o, none⟩ = false := fun o => by rw [f1 _ _ (by simp; try omega)]; simp [go_sem]
  have HBk : Hid (Book w1 b 54 (bookF (hereG 0 bs))) := hbk
  clear hb1 c1' f1 hbk
  go_wp2
  refine bodyPost_ret (v := .agg #[.int .i64 3, .map (some b)]) (by simp [results, Tryz.results141, go_sem, r0, r1, rf]) rfl ⟨b, rfl, by omega, ?_, by (repeat (first | refine bset ?_ (by simp; omega) _ | refine bset ?_ (by simp) _ | refine bA ?_ _ | assumption))⟩
  exact (HBk.out.turned (Mod.of_set _ _ _) (by dsimp only; omega)).turned (Mod.of_set _ _ _) (by dsimp only; omega)
 ·
  clear hi
  go_enter Tryz.func141, Tryz.ntmps141
  go_wp2_with fail
  refine (HBo.out _ _ (hereG_V (G := w.heap.size + 2) (u0 := .slice none 0 0) (u1 := .slice a1 n1 c1) (u2 := .slice none 0 0) (by simp [go_sem]) (by simp [go_sem]) (by simp [go_sem]) ?v0 ?v1 ?v2)).mono ?_
  case v0 => first | exact HV.out _ (qBq) | exact balsV_nil _
  case v1 => first | exact HV.out _ (qBq) | exact balsV_nil _
  case v2 => first | exact HV.out _ (qBq) | exact balsV_nil _
  rintro e w1 ⟨b, rfl, hb, hbk, hb1⟩
  have hB1 : Below w.heap.size w w1 := bS (qBq) hb1
  have hz1 := hb1.size
  simp at hb hz1
  obtain ⟨c1', f1⟩ := bcell hb1
  have r0 : w1.cell? ⟨w.heap.size + 1, 0, none⟩ = some (.int .i64 0) := cK hb1 (by simp [go_sem])
  have r1 : w1.cell? ⟨w.heap.size + 1, 1, none⟩ = some (.map none) := cK hb1 (by simp [go_sem])
  have rf : ∀ o, w1.frozen? ⟨w.heap.size + 1, o, none⟩ = false := fun o => by rw [f1 _ _ (by simp; try omega)]; simp [go_sem]
  have HBk : Hid (Book w1 b 54 (bookF (hereG 1 bs))) := hbk
  clear hb1 c1' f1 hbk
  go_wp2
  refine bodyPost_ret (v := .agg #[.int .i64 3, .map (some b)]) (by simp [results, Tryz.results141, go_sem, r0, r1, rf]) rfl ⟨b, rfl, by omega, ?_, by (repeat (first | refine bset ?_ (by simp; omega) _ | refine bset ?_ (by simp) _ | refine bA ?_ _ | assumption))⟩
  exact (HBk.out.turned (Mod.of_set _ _ _) (by dsimp only; omega)).turned (Mod.of_set _ _ _) (by dsimp only; omega)
 ·
  clear hi
  go_enter Tryz.func141, Tryz.ntmps141
  go_wp2_with fail
  refine (HBo.out _ _ (hereG_V (G := w.heap.size + 2) (u0 := .slice none 0 0) (u1 := .slice none 0 0) (u2 := .slice a1 n1 c1) (by simp [go_sem]) (by simp [go_sem]) (by simp [go_sem]) ?v0 ?v1 ?v2)).mono ?_
  case v0 => first | exact HV.out _ (qBq) | exact balsV_nil _
  case v1 => first | exact HV.out _ (qBq) | exact balsV_nil _
  case v2 => first | exact HV.out _ (qBq) | exact balsV_nil _
  rintro e w1 ⟨b, rfl, hb, hbk, hb1⟩
  have hB1 : Below w.heap.size w w1 := bS (qBq) hb1
  have hz1 := hb1.size
  simp at hb hz1
  obtain ⟨c1', f1⟩ := bcell hb1
  have r0 : w1.cell? ⟨w.heap.size + 1, 0, none⟩ = some (.int .i64 0) := cK hb1 (by simp [go_sem])
  have r1 : w1.cell? ⟨w.heap.size + 1, 1, none⟩ = some (.map none) := cK hb1 (by simp [go_sem])
  have rf : ∀ o, w1.frozen? ⟨w.heap.size + 1, o, none⟩ = false := fun o => by rw [f1 _ _ (by simp; try omega)]; simp [go_sem]
  have HBk : Hid (Book w1 b 54 (bookF (hereG 2 bs))) := hbk
  clear hb1 c1' f1 hbk
  go_wp2
  refine bodyPost_ret (v := .agg #[.int .i64 3, .map (some b)]) (by simp [results, Tryz.results141, go_sem, r0, r1, rf]) rfl ⟨b, rfl, by omega, ?_, by (repeat (first | refine bset ?_ (by simp; omega) _ | refine bset ?_ (by simp) _ | refine bA ?_ _ | assumption))⟩
  exact (HBk.out.turned (Mod.of_set _ _ _) (by dsimp only; omega)).turned (Mod.of_set _ _ _) (by dsimp only; omega)
theorem canLs_book {idx : Int} {bs : List Bal} (h : 0 ≤ idx ∧ idx ≤ 2) (ls : List Leg) : scanI (fun k => canL (bookF (hereG idx bs)) ((onSh idx ls).getD k default)) (onSh idx ls).length = canLs bs (onSh idx ls) := by
 have e : ∀ k, k < (onSh idx ls).length → canL (bookF (hereG idx bs)) ((onSh idx ls).getD k default) = canB bs ((onSh idx ls).getD k default) := fun k hk => by
  have hm : (onSh idx ls).getD k default ∈ onSh idx ls := by simp [List.getD, hk]
  have hs := (List.mem_filter.1 hm).2
  simp only [beq_iff_eq] at hs
  have h1 := hasB_book (g := ⟨hereG idx bs⟩) (l := (onSh idx ls).getD k default) (by omega) (by show _ < ((3 : Nat) : Int); omega)
  rw [hs] at h1
  have h2 := hereG_at (bs := bs) h
  dsimp only at h1
  rw [h2] at h1
  exact h1.symm
 unfold canLs
 have hg : ∀ n, n ≤ (onSh idx ls).length → scanI (fun k => canL (bookF (hereG idx bs)) ((onSh idx ls).getD k default)) n = scanI (fun k => canB bs ((onSh idx ls).getD k default)) n := by
  intro n
  induction n with
  | zero => intro _; rfl
  | succ n ih =>
   intro hn
   have h1 := ih (by omega)
   unfold scanI
   rw [h1, e n (by omega)]
 exact hg _ (Nat.le_refl _)
theorem keepCovered_any (idx id : Int) (b : Nat) (ul : Value) (bs : List Bal) (ls : List Leg) (w : World) (hb : Book w b 54 (bookF (hereG idx bs))) (hl : legsR.V w ul ls) (hn : ls.length ≤ 1000) (hi : 0 ≤ idx ∧ idx ≤ 2) (hbf : balFault bs = 0) (hlf : ∀ l ∈ ls, legFault l = 0) :
  Calls Tryz.prog 142 #[.int .i64 idx, .agg #[.int .i64 3, .map (some b)], .agg #[.int .i64 id, ul]] w (KeepE (canLs bs (onSh idx ls)) w) := by
 have HLe : Hid (∀ W, Below w.heap.size w W → Calls Tryz.prog 108 #[ul, .int .i64 idx] W fun e w' => ∃ v, e = .returned v ∧ w'.ownsRow W.heap.size 152 4 v (onSh idx ls).length (legsC (onSh idx ls)) ∧ Below W.heap.size W w') := fun W hW => legsOn_any ul ls idx W (legsR.below hl hW) (by omega)
 have HAm : Hid (∀ W y, Below w.heap.size w W → legsR.V W y (onSh idx ls) → Calls Tryz.prog 196 #[.agg #[.int .i64 3, .map (some b)], y] W fun e w' => e = .returned (.int .i64 (canLs bs (onSh idx ls))) ∧ Below W.heap.size W w') := fun W y hW hy => by
  have h := amountsFault_any 3 b 54 (bookF (hereG idx bs)) y (onSh idx ls) W (hb.below hW) hy (smallF_of (g := ⟨hereG idx bs⟩) (hereG_ok hbf)) (fun k hk => by
   have hm : (onSh idx ls).getD k default ∈ onSh idx ls := by simp [List.getD, hk]
   exact hlf _ (List.mem_filter.1 hm).1)
  rw [canLs_book hi ls] at h
  exact h
 obtain ⟨al, cl, rfl⟩ := legs_form hl
 clear hl hn hi hbf hlf hb
 generalize ls.length = ll at *
 obtain ⟨cc, hcc⟩ : ∃ cc, cc = canLs bs (onSh idx ls) := ⟨_, rfl⟩
 rw [← hcc] at HAm ⊢
 clear hcc
 go_enter Tryz.func142, Tryz.ntmps142
 go_wp2
 obtain ⟨wr, hwr⟩ : ∃ wr, wr = (w.alloc (.cells #[.int .i64 3, .map (some b)] 217)).alloc (.cells #[.int .i64 id, .slice al ll cl] 56) := ⟨_, rfl⟩
 have p0 : wr.cell? ⟨w.heap.size, 0, none⟩ = some (.int .i64 3) := by rw [hwr]; simp [go_sem]
 have p1 : wr.cell? ⟨w.heap.size, 1, none⟩ = some (.map (some b)) := by rw [hwr]; simp [go_sem]
 have q0 : wr.cell? ⟨w.heap.size + 1, 0, none⟩ = some (.int .i64 id) := by rw [hwr]; simp [go_sem]
 have q1 : wr.cell? ⟨w.heap.size + 1, 1, none⟩ = some (.slice al ll cl) := by rw [hwr]; simp [go_sem]
 have hBr : Below w.heap.size w wr := by rw [hwr]; (repeat (first | exact bR _ _ | assumption | refine bD ?_ | refine bA ?_ _ | refine bset ?_ (by simp; omega) _ | refine bset ?_ (by simp) _ | refine bS ?_ (by assumption)))
 rw [← hwr]
 clear hwr
 refine wp_region_noPanic ?_
 refine region_upto (fun W => Below wr.heap.size wr W ∧ W.cell? ⟨w.heap.size, 0, none⟩ = some (.int .i64 3) ∧ W.cell? ⟨w.heap.size, 1, none⟩ = some (.map (some b)) ∧ W.cell? ⟨w.heap.size + 1, 1, none⟩ = some (.slice al ll cl)) 7 (by kernel_rfl) ⟨qBq, cK (qBq) p0, cK (qBq) p1, cK (qBq) q1⟩ (fun hS => ?_)
 refine tM 0 rfl hS ?_; try simp only [jX]
 refine tM 1 rfl hS ?_; try simp only [jX]
 refine tM 2 rfl hS ?_; try simp only [jX]
 refine tM 3 rfl hS ?_; try simp only [jX]
 refine uS 4 rfl (fun K hK => ?_)
 go_simp
 refine (HLe.out _ (bS hBr hS.1)).mono ?_
 rintro e wz1 ⟨vl, rfl, ol, hbz1⟩
 obtain ⟨a5, c5, rfl⟩ := owns_form ol
 have V1 := LegsV_of_owns ol
 have hbz1' : Below wr.heap.size wr wz1 := bS hS.1 hbz1
 have hS3 := And.intro hbz1' (And.intro (cK hbz1 hS.2.1) (And.intro (cK hbz1 hS.2.2.1) (cK hbz1 hS.2.2.2)))
 refine hK _ _ (fun _ => hS3) ?_
 clear hK K hS hbz1
 have hS := hS3
 clear hS3
 try simp only [jX]
 refine uS 5 rfl (fun K hK => ?_)
 go_simp
 refine (HAm.out _ _ (bS hBr hS.1) V1).mono ?_
 rintro e wz ⟨rfl, hbz⟩
 have hbz' : Below wr.heap.size wr wz := bS hS.1 hbz
 have hS3 := And.intro hbz' (And.intro (cK hbz hS.2.1) (And.intro (cK hbz hS.2.2.1) (cK hbz hS.2.2.2)))
 refine hK _ _ (fun _ => hS3) ?_
 clear hK K hS hbz
 have hS := hS3
 clear hS3
 try simp only [jX]
 refine tM 6 rfl hS ?_; try simp only [jX]
 refine dN (NoPanic.normal ?_)
 by_cases hc : cc = 0
 ·
  have hc' : (cc != 0) = false := by simp [hc]
  go_wp2
  go_end0
  exact ⟨.inl ⟨hc, rfl⟩, bS hBr hS.1⟩
 ·
  have hc' : (cc != 0) = true := by simp [hc]
  go_wp2
  exact ⟨rfl, .inr ⟨hc, rfl⟩, bS hBr hS.1⟩
def cmpQ (x y : Int) : Int := if x < y then -1 else if y < x then 1 else 0
theorem cmpQ_neg {x y : Int} : cmpQ x y < 0 ↔ x < y := by unfold cmpQ; split <;> (try split) <;> omega
theorem cmpQ_eq {x y : Int} : cmpQ x y = 0 ↔ x = y := by unfold cmpQ; split <;> (try split) <;> omega
theorem isNaNq_any (x : Int) (w : World) : Calls Tryz.prog 218 #[.int .i64 x] w fun e w' => e = .returned (.bool false) ∧ w' = w := by
 go_enter Tryz.func218, Tryz.ntmps218
 go_wp2; go_ret
 exact ⟨rfl, rfl⟩
theorem cmpQ_any (x y : Int) (w : World) : Calls Tryz.prog 186 #[.int .i64 x, .int .i64 y] w fun e w' => e = .returned (.int .i64 (cmpQ x y)) ∧ w' = w := by
 go_enter Tryz.func186, Tryz.ntmps186
 go_wp2_with (go_at_call 218; refine (isNaNq_any _ _).mono ?_; rintro e w' ⟨rfl, rfl⟩)
 all_goals (go_ret; refine ⟨?_, rfl⟩; unfold cmpQ; (repeat' split) <;> first | rfl | (exfalso; omega))
theorem mrkCmp_any (l : Mrk) (c : Int) (w : World) : Calls Tryz.prog 214 #[.agg #[.int .i64 l.con, .int .i64 l.val], .int .i64 c] w fun e w' => e = .returned (.int .i64 (cmpQ l.con c)) ∧ Below w.heap.size w w' := by
 go_enter Tryz.func214, Tryz.ntmps214
 go_wp2_with (go_at_call 186; refine (cmpQ_any _ _ _).mono ?_; rintro e w' ⟨rfl, rfl⟩)
 go_ret
 exact ⟨rfl, qBq⟩
def PlM (xs : List Mrk) (c : Int) (w : World) (e : Ending) (w' : World) : Prop := ∃ i : Nat, i ≤ xs.length ∧ e = .returned (.tuple #[.int .i64 i, .bool (decide (i < xs.length ∧ (xs.getD i default).con = c))]) ∧ (∀ k, k < i → (xs.getD k default).con < c) ∧ (∀ k, i ≤ k → k < xs.length → c ≤ (xs.getD k default).con) ∧ Below w.heap.size w w'
theorem bsM_any (x : Value) (xs : List Mrk) (c : Int) (w : World) (hx : mrksR.V w x xs) (hn : xs.length ≤ 1048576) (hr : ∀ i j, i < j → j < xs.length → (xs.getD i default).con < (xs.getD j default).con) :
  Calls Tryz.prog 213 #[x, .int .i64 c, .func (.func 214) #[] #[]] w (PlM xs c w) := by
 obtain ⟨ax, cx, rfl, hcx, hmx, hx⟩ := hx
 unfold maxLen at hmx
 have HR : Hid (∀ i j, i < j → j < xs.length → (xs.getD i default).con < (xs.getD j default).con) := hr
 have HX : Hid (∀ i, i < xs.length → ∃ b o, ax = some ⟨b, o, none⟩ ∧ mrkCells w b (o + i * 2) (xs.getD i default)) := hx
 clear hx hr
 generalize hN : xs.length = n at *
 have HN : Hid (xs.length = n) := hN
 clear hN
 have eg := enters_of Tryz.func214 (by kernel_rfl) rfl
 go_enter Tryz.func213, Tryz.ntmps213
 go_wp2
 go_loopw [9, 10] (fun a b W => ∃ i j : Nat, i ≤ j ∧ j ≤ n ∧ a = .int .i64 i ∧ b = .int .i64 j ∧ Hid (∀ k, k < i → (xs.getD k default).con < c) ∧ Hid (∀ k, j ≤ k → k < n → c ≤ (xs.getD k default).con) ∧ Below w.heap.size w W) (fun a b _ => (intOf b).toNat - (intOf a).toNat)
 case atStart => exact ⟨0, n, Nat.zero_le _, Nat.le_refl _, rfl, rfl, fun k h => absurd h (Nat.not_lt_zero _), fun k h1 h2 => by omega, Below.refl _ _⟩
 case round =>
  obtain ⟨i, j, hij, hjn, rfl, rfl, HA, HB, hbl⟩ := hrel
  by_cases hlt : i < j
  ·
   have hlt' : (i : Int) < j := by omega
   obtain ⟨m, hm⟩ : ∃ m : Nat, ((i : Int) + j) / 2 = (m : Int) := ⟨(i + j) / 2, by omega⟩
   have hm1 : i ≤ m := by omega
   have hm2 : m < j := by omega
   have hi4 : (0 : Int) ≤ m := by omega
   have hi5 : (m : Int) < n := by omega
   obtain ⟨bx, ox, rfl, g1⟩ := HX.out m (by omega)
   obtain ⟨l, hl⟩ : ∃ l, l = xs.getD m default := ⟨_, rfl⟩
   rw [← hl] at g1
   have HL : Hid (l = xs.getD m default) := hl
   clear hl
   obtain ⟨g2, g3⟩ := mrkCells_below hbl g1; clear g1
   by_cases hneg : cmpQ l.con c < 0
   ·
    have hd : decide (cmpQ l.con c < 0) = true := decide_eq_true hneg
    have HA2 : Hid (∀ k, k < m + 1 → (xs.getD k default).con < c) := fun k hk => by
     have h1 : (xs.getD m default).con < c := by rw [← HL.out]; exact cmpQ_neg.1 hneg
     by_cases e : k = m
     ·
      rw [e]; exact h1
     ·
      have := HR.out k m (by omega) (by omega); omega
    go_wp2_with (first | (go_at_call 214; refine (mrkCmp_any l  c _).mono ?_; rintro e wa ⟨rfl, hb1⟩))
    refine ⟨⟨m + 1, j, by omega, hjn, by go_num, rfl, HA2, HB, qBq⟩, ?_⟩
    simp [intOf]
    omega
   ·
    have hd : decide (cmpQ l.con c < 0) = false := decide_eq_false hneg
    have HB2 : Hid (∀ k, m ≤ k → k < n → c ≤ (xs.getD k default).con) := fun k hk hkn => by
     have h1 : c ≤ (xs.getD m default).con := by rw [← HL.out]; have := mt cmpQ_neg.2 hneg; omega
     by_cases e : k = m
     ·
      rw [e]; exact h1
     ·
      have := HR.out m k (by omega) (by omega); omega
    go_wp2_with (first | (go_at_call 214; refine (mrkCmp_any l  c _).mono ?_; rintro e wa ⟨rfl, hb1⟩))
    refine ⟨⟨i, m, hm1, by omega, rfl, rfl, HA, HB2, qBq⟩, ?_⟩
    simp [intOf]
    omega
  ·
   obtain rfl : i = j := by omega
   have hi4 : (0 : Int) ≤ i := by omega
   have hnl : ¬ (i : Int) < i := by omega
   by_cases hin : i < n
   ·
    obtain ⟨bx, ox, rfl, g1⟩ := HX.out i hin
    obtain ⟨l, hl⟩ : ∃ l, l = xs.getD i default := ⟨_, rfl⟩
    rw [← hl] at g1
    have HL : Hid (l = xs.getD i default) := hl
    clear hl
    obtain ⟨g2, g3⟩ := mrkCells_below hbl g1; clear g1
    have hi5 : (i : Int) < n := by omega
    have hi6 : decide (i < n) = true := decide_eq_true hin
    go_wp2_with (first | (go_at_call 214; refine (mrkCmp_any l  c _).mono ?_; rintro e wa ⟨rfl, hb1⟩))
    refine bodyPost_ret (v := .tuple #[.int .i64 i, .bool (cmpQ l.con c == 0)]) (by simp [results, Tryz.results213, go_sem]) rfl ?_
    refine ⟨i, by rw [HN.out]; exact hjn, ?_, HA.out, by rw [HN.out]; exact HB.out, qBq⟩
    rw [← HL.out, HN.out]
    have e : (cmpQ l.con c == 0) = decide (i < n ∧ l.con = c) := by
     rw [Bool.eq_iff_iff]
     simp [hin, cmpQ_eq]
    rw [e]
   ·
    have hi5 : ¬ (i : Int) < n := by omega
    have hi6 : decide (i < n) = false := decide_eq_false hin
    go_wp2
    refine bodyPost_ret (v := .tuple #[.int .i64 i, .bool false]) (by simp [results, Tryz.results213, go_sem]) rfl ?_
    refine ⟨i, by rw [HN.out]; exact hjn, ?_, HA.out, by rw [HN.out]; exact HB.out, qBq⟩
    rw [HN.out, decide_eq_false (fun h => hin h.1)]
theorem markPlace_any (x : Value) (xs : List Mrk) (c : Int) (w : World) (hx : mrksR.V w x xs) (hn : xs.length ≤ 1048576) (hr : ∀ i j, i < j → j < xs.length → (xs.getD i default).con < (xs.getD j default).con) :
  Calls Tryz.prog 169 #[x, .int .i64 c] w (PlM xs c w) := by
 have HB : Hid (∀ W, Below w.heap.size w W → Calls Tryz.prog 213 #[x, .int .i64 c, .func (.func 214) #[] #[]] W (PlM xs c W)) := fun W hW => bsM_any x xs c W (mrksR.below hx hW) hn hr
 obtain ⟨a, ca, rfl⟩ := mrks_form hx
 clear hx hr
 go_enter Tryz.func169, Tryz.ntmps169
 go_wp2_with fail
 refine (HB.out _ (qBq)).mono ?_
 rintro e w1 ⟨i, hi, rfl, h1, h2, hb1⟩
 go_wp2
 refine bodyPost_ret (v := .tuple #[.int .i64 i, .bool (decide (i < xs.length ∧ (xs.getD i default).con = c))]) (by simp [results, Tryz.results169, go_sem]) rfl ?_
 exact ⟨i, hi, rfl, h1, h2, qBq⟩
theorem valueIn_any (x : Value) (xs : List Mrk) (c : Int) (w : World) (hx : mrksR.V w x xs) (hn : xs.length ≤ 1048576) (hr : ∀ i j, i < j → j < xs.length → (xs.getD i default).con < (xs.getD j default).con) :
  Calls Tryz.prog 109 #[x, .int .i64 c] w fun e w' => e = .returned (.int .i64 (findM c xs)) ∧ Below w.heap.size w w' := by
 have HB : Hid (∀ W, Below w.heap.size w W → Calls Tryz.prog 169 #[x, .int .i64 c] W (PlM xs c W)) := fun W hW => markPlace_any x xs c W (mrksR.below hx hW) hn hr
 obtain ⟨ax, cx, rfl, hcx, hmx, hx⟩ := hx
 unfold maxLen at hmx
 have HF : Hid (∀ i, i ≤ xs.length → (∀ k, k < i → (xs.getD k default).con < c) → (∀ k, i ≤ k → k < xs.length → c ≤ (xs.getD k default).con) → findM c xs = if i < xs.length ∧ (xs.getD i default).con = c then (xs.getD i default).val else 0) := fun i hi h1 h2 => findM_at hr hi h1 h2
 have HX : Hid (∀ i, i < xs.length → ∃ b o, ax = some ⟨b, o, none⟩ ∧ mrkCells w b (o + i * 2) (xs.getD i default)) := hx
 clear hx hr
 go_enter Tryz.func109, Tryz.ntmps109
 go_wp2_with fail
 refine (HB.out _ (qBq)).mono ?_
 rintro e w1 ⟨i, hi, rfl, h1, h2, hb1⟩
 have hf := HF.out i hi h1 h2
 have HFd : Hid (findM c xs = if i < xs.length ∧ (xs.getD i default).con = c then (xs.getD i default).val else 0) := hf
 clear HF h1 h2 hf
 by_cases hc : i < xs.length ∧ (xs.getD i default).con = c
 ·
  have hd : decide (i < xs.length ∧ (xs.getD i default).con = c) = true := decide_eq_true hc
  rw [hd]
  have HC : Hid (findM c xs = (xs.getD i default).val) := by show _ = _; rw [HFd.out, if_pos hc]
  obtain ⟨bx, ox, rfl, g1⟩ := HX.out i hc.1
  obtain ⟨g2, g3⟩ := mrkCells_below hb1 g1
  have i1 : (i : Int) < xs.length := by have := hc.1; omega
  have i2 : (0 : Int) ≤ i := by omega
  clear hd hc HFd g1
  generalize (xs.getD i default).val = vv at *
  generalize xs.length = n at *
  go_wp2; go_ret
  exact ⟨by rw [HC.out]; rfl, qBq⟩
 ·
  have hd : decide (i < xs.length ∧ (xs.getD i default).con = c) = false := decide_eq_false hc
  rw [hd]
  have HC : Hid (findM c xs = 0) := by show _ = _; rw [HFd.out, if_neg hc]
  clear hd hc HFd
  go_wp2; go_ret
  exact ⟨by rw [HC.out]; rfl, qBq⟩
theorem contCmp_any (l : Cont) (u : Value) (c : Int) (w : World) : Calls Tryz.prog 246 #[.agg #[.int .i64 l.id, u], .int .i64 c] w fun e w' => e = .returned (.int .i64 (cmpQ l.id c)) ∧ Below w.heap.size w w' := by
 go_enter Tryz.func246, Tryz.ntmps246
 go_wp2_with (go_at_call 186; refine (cmpQ_any _ _ _).mono ?_; rintro e w' ⟨rfl, rfl⟩)
 go_ret
 exact ⟨rfl, qBq⟩
def PlC (xs : List Cont) (c : Int) (w : World) (e : Ending) (w' : World) : Prop := ∃ i : Nat, i ≤ xs.length ∧ e = .returned (.tuple #[.int .i64 i, .bool (decide (i < xs.length ∧ (xs.getD i default).id = c))]) ∧ (∀ k, k < i → (xs.getD k default).id < c) ∧ (∀ k, i ≤ k → k < xs.length → c ≤ (xs.getD k default).id) ∧ Below w.heap.size w w'
theorem bsC_any (x : Value) (xs : List Cont) (c : Int) (w : World) (hx : contsR.V w x xs) (hn : xs.length ≤ 1048576) (hr : ∀ i j, i < j → j < xs.length → (xs.getD i default).id < (xs.getD j default).id) :
  Calls Tryz.prog 245 #[x, .int .i64 c, .func (.func 246) #[] #[]] w (PlC xs c w) := by
 obtain ⟨ax, cx, rfl, hcx, hmx, hx⟩ := conts_at hx
 unfold maxLen at hmx
 have HR : Hid (∀ i j, i < j → j < xs.length → (xs.getD i default).id < (xs.getD j default).id) := hr
 have HX : Hid (∀ k, k < xs.length → ∃ b o p q, ax = some ⟨b, o, none⟩ ∧ w.cell? ⟨b, o + k * 2, none⟩ = some (.int .i64 (xs.getD k default).id) ∧ w.cell? ⟨b, o + k * 2 + 1, none⟩ = some (.slice p (xs.getD k default).legs.length q) ∧ contR.V w (.agg #[.int .i64 (xs.getD k default).id, .slice p (xs.getD k default).legs.length q]) (xs.getD k default)) := hx
 clear hx hr
 generalize hN : xs.length = n at *
 have HN : Hid (xs.length = n) := hN
 clear hN
 have eg := enters_of Tryz.func246 (by kernel_rfl) rfl
 go_enter Tryz.func245, Tryz.ntmps245
 go_wp2
 go_loopw [9, 10] (fun a b W => ∃ i j : Nat, i ≤ j ∧ j ≤ n ∧ a = .int .i64 i ∧ b = .int .i64 j ∧ Hid (∀ k, k < i → (xs.getD k default).id < c) ∧ Hid (∀ k, j ≤ k → k < n → c ≤ (xs.getD k default).id) ∧ Below w.heap.size w W) (fun a b _ => (intOf b).toNat - (intOf a).toNat)
 case atStart => exact ⟨0, n, Nat.zero_le _, Nat.le_refl _, rfl, rfl, fun k h => absurd h (Nat.not_lt_zero _), fun k h1 h2 => by omega, Below.refl _ _⟩
 case round =>
  obtain ⟨i, j, hij, hjn, rfl, rfl, HA, HB, hbl⟩ := hrel
  by_cases hlt : i < j
  ·
   have hlt' : (i : Int) < j := by omega
   obtain ⟨m, hm⟩ : ∃ m : Nat, ((i : Int) + j) / 2 = (m : Int) := ⟨(i + j) / 2, by omega⟩
   have hm1 : i ≤ m := by omega
   have hm2 : m < j := by omega
   have hi4 : (0 : Int) ≤ m := by omega
   have hi5 : (m : Int) < n := by omega
   obtain ⟨bx, ox, pp, qq, rfl, g2, g3, _⟩ := HX.out m (by omega)
   obtain ⟨l, hl⟩ : ∃ l, l = xs.getD m default := ⟨_, rfl⟩
   rw [← hl] at g2 g3
   have HL : Hid (l = xs.getD m default) := hl
   clear hl
   replace g2 := cK hbl g2; replace g3 := cK hbl g3
   by_cases hneg : cmpQ l.id c < 0
   ·
    have hd : decide (cmpQ l.id c < 0) = true := decide_eq_true hneg
    have HA2 : Hid (∀ k, k < m + 1 → (xs.getD k default).id < c) := fun k hk => by
     have h1 : (xs.getD m default).id < c := by rw [← HL.out]; exact cmpQ_neg.1 hneg
     by_cases e : k = m
     ·
      rw [e]; exact h1
     ·
      have := HR.out k m (by omega) (by omega); omega
    go_wp2_with (first | (go_at_call 246; refine (contCmp_any l _ c _).mono ?_; rintro e wa ⟨rfl, hb1⟩))
    refine ⟨⟨m + 1, j, by omega, hjn, by go_num, rfl, HA2, HB, qBq⟩, ?_⟩
    simp [intOf]
    omega
   ·
    have hd : decide (cmpQ l.id c < 0) = false := decide_eq_false hneg
    have HB2 : Hid (∀ k, m ≤ k → k < n → c ≤ (xs.getD k default).id) := fun k hk hkn => by
     have h1 : c ≤ (xs.getD m default).id := by rw [← HL.out]; have := mt cmpQ_neg.2 hneg; omega
     by_cases e : k = m
     ·
      rw [e]; exact h1
     ·
      have := HR.out m k (by omega) (by omega); omega
    go_wp2_with (first | (go_at_call 246; refine (contCmp_any l _ c _).mono ?_; rintro e wa ⟨rfl, hb1⟩))
    refine ⟨⟨i, m, hm1, by omega, rfl, rfl, HA, HB2, qBq⟩, ?_⟩
    simp [intOf]
    omega
  ·
   obtain rfl : i = j := by omega
   have hi4 : (0 : Int) ≤ i := by omega
   have hnl : ¬ (i : Int) < i := by omega
   by_cases hin : i < n
   ·
    obtain ⟨bx, ox, pp, qq, rfl, g2, g3, _⟩ := HX.out i hin
    obtain ⟨l, hl⟩ : ∃ l, l = xs.getD i default := ⟨_, rfl⟩
    rw [← hl] at g2 g3
    have HL : Hid (l = xs.getD i default) := hl
    clear hl
    replace g2 := cK hbl g2; replace g3 := cK hbl g3
    have hi5 : (i : Int) < n := by omega
    have hi6 : decide (i < n) = true := decide_eq_true hin
    go_wp2_with (first | (go_at_call 246; refine (contCmp_any l _ c _).mono ?_; rintro e wa ⟨rfl, hb1⟩))
    refine bodyPost_ret (v := .tuple #[.int .i64 i, .bool (cmpQ l.id c == 0)]) (by simp [results, Tryz.results245, go_sem]) rfl ?_
    refine ⟨i, by rw [HN.out]; exact hjn, ?_, HA.out, by rw [HN.out]; exact HB.out, qBq⟩
    rw [← HL.out, HN.out]
    have e : (cmpQ l.id c == 0) = decide (i < n ∧ l.id = c) := by
     rw [Bool.eq_iff_iff]
     simp [hin, cmpQ_eq]
    rw [e]
   ·
    have hi5 : ¬ (i : Int) < n := by omega
    have hi6 : decide (i < n) = false := decide_eq_false hin
    go_wp2
    refine bodyPost_ret (v := .tuple #[.int .i64 i, .bool false]) (by simp [results, Tryz.results245, go_sem]) rfl ?_
    refine ⟨i, by rw [HN.out]; exact hjn, ?_, HA.out, by rw [HN.out]; exact HB.out, qBq⟩
    rw [HN.out, decide_eq_false (fun h => hin h.1)]
theorem placeAmong_any (x : Value) (xs : List Cont) (c : Int) (w : World) (hx : contsR.V w x xs) (hn : xs.length ≤ 1048576) (hr : ∀ i j, i < j → j < xs.length → (xs.getD i default).id < (xs.getD j default).id) :
  Calls Tryz.prog 233 #[x, .int .i64 c] w (PlC xs c w) := by
 have HB : Hid (∀ W, Below w.heap.size w W → Calls Tryz.prog 245 #[x, .int .i64 c, .func (.func 246) #[] #[]] W (PlC xs c W)) := fun W hW => bsC_any x xs c W (contsR.below hx hW) hn hr
 obtain ⟨a, ca, rfl⟩ := conts_form hx
 clear hx hr
 go_enter Tryz.func233, Tryz.ntmps233
 go_wp2_with fail
 refine (HB.out _ (qBq)).mono ?_
 rintro e w1 ⟨i, hi, rfl, h1, h2, hb1⟩
 go_wp2
 refine bodyPost_ret (v := .tuple #[.int .i64 i, .bool (decide (i < xs.length ∧ (xs.getD i default).id = c))]) (by simp [results, Tryz.results233, go_sem]) rfl ?_
 exact ⟨i, hi, rfl, h1, h2, qBq⟩
theorem isHeld_any (x : Value) (d : Shd) (c : Int) (w : World) (hx : shdR.V w x d) (hn : d.held.length ≤ 1048576) (hr : ∀ i j, i < j → j < d.held.length → (d.held.getD i default).id < (d.held.getD j default).id) :
  Calls Tryz.prog 222 #[x, .int .i64 c] w fun e w' => e = .returned (.bool (heldIn d.held c)) ∧ Below w.heap.size w w' := by
 obtain ⟨u1, u2, u3, u4, u5, rfl, _, _, h3, _, _⟩ := hx
 have HB : Hid (∀ W, Below w.heap.size w W → Calls Tryz.prog 233 #[u3, .int .i64 c] W (PlC d.held c W)) := fun W hW => placeAmong_any u3 d.held c W (contsR.below h3 hW) hn hr
 have HF : Hid (∀ i, (∀ k, k < i → (d.held.getD k default).id < c) → (∀ k, i ≤ k → k < d.held.length → c ≤ (d.held.getD k default).id) → heldIn d.held c = decide (i < d.held.length ∧ (d.held.getD i default).id = c)) := fun i h1 h2 => heldIn_at hr h1 h2
 obtain ⟨a3, c3, rfl⟩ := conts_form h3
 clear h3 hr
 go_enter Tryz.func222, Tryz.ntmps222
 go_wp2_with fail
 refine (HB.out _ (qBq)).mono ?_
 rintro e w1 ⟨i, hi, rfl, h1, h2, hb1⟩
 have HC : Hid (heldIn d.held c = decide (i < d.held.length ∧ (d.held.getD i default).id = c)) := HF.out i h1 h2
 clear HF h1 h2
 generalize decide (i < d.held.length ∧ (d.held.getD i default).id = c) = bb at *
 go_wp2; go_ret
 exact ⟨by rw [HC.out]; rfl, qBq⟩
theorem isValueH_any (n : Int) (w : World) : Calls Tryz.prog 189 #[.int .i64 n] w fun e w' => e = .returned (.bool (inB n 1 2)) ∧ w' = w := by
 go_enter Tryz.func189, Tryz.ntmps189
 go_wp2_with (go_at_call 101; refine (within_any _ _ _ _).mono ?_; rintro e w' ⟨rfl, rfl⟩)
 go_ret
 exact ⟨rfl, rfl⟩
theorem isOutcomeH_any (n : Int) (w : World) : Calls Tryz.prog 190 #[.int .i64 n] w fun e w' => e = .returned (.bool (inB n 1 2)) ∧ w' = w := by
 go_enter Tryz.func190, Tryz.ntmps190
 go_wp2_with (go_at_call 101; refine (within_any _ _ _ _).mono ?_; rintro e w' ⟨rfl, rfl⟩)
 go_ret
 exact ⟨rfl, rfl⟩
theorem marksV_any (x : Value) (xs : List Mrk) (w : World) (hx : mrksR.V w x xs) :
  Calls Tryz.prog 188 #[x, .func (.func 189) #[] #[]] w fun e w' => e = .returned (.int .i64 (mrkF xs)) ∧ Below w.heap.size w w' := by
 obtain ⟨ax, cx, rfl, hcx, hmx, hx⟩ := hx
 unfold maxLen at hmx
 have HH : Hid (∀ k c, k < xs.length → scanI (mrkAt xs) k = 0 → mrkAt xs k = c → c ≠ 0 → mrkF xs = c) := fun k c hk hs h hc => mrkF_hit hk hs h hc
 have HE : Hid (scanI (mrkAt xs) xs.length = 0 → mrkF xs = 0) := fun h => h
 generalize hn' : xs.length = n at *
 clear hn'
 have eg := enters_of Tryz.func189 (by kernel_rfl) rfl
 go_enter Tryz.func188, Tryz.ntmps188
 go_wp2
 go_loopw [9] (fun i w' => ∃ k : Nat, k ≤ n ∧ i = .int .i64 k ∧ Hid (scanI (mrkAt xs) k = 0) ∧ Below w.heap.size w w') (fun i _ => n - (intOf i).toNat)
 case atStart => exact ⟨0, Nat.zero_le _, rfl, rfl, Below.refl _ _⟩
 case round =>
  obtain ⟨k, hk, rfl, HS, hbl⟩ := hrel
  by_cases hlt : k < n
  ·
   obtain ⟨bx, ox, rfl, g1⟩ := hx k hlt
   obtain ⟨l, hl⟩ : ∃ l, l = xs.getD k default := ⟨_, rfl⟩
   rw [← hl] at g1
   have HL : Hid (l = xs.getD k default) := hl
   clear hl
   obtain ⟨a1, a2⟩ := mrkCells_below hbl g1
   have zb : bx < wr.heap.size := wL wr _ a1
   cases h1 : inB l.con 1 1000000000
   ·
    have HC : Hid (mrkF xs = 3) := HH.out k 3 hlt HS.out (mrkAt_bad (by rw [← HL.out, h1]; rfl)) (by omega)
    clear hx
    go_wp2_with (first | (go_at_call 165; refine (isId_any _ _).mono ?_; rintro e w' ⟨rfl, rfl⟩; rw [h1]))
    go_ret
    exact ⟨by rw [HC.out]; rfl, qBq⟩
   cases h2 : inB l.val 1 2
   ·
    have HC : Hid (mrkF xs = 3) := HH.out k 3 hlt HS.out (mrkAt_bad (by rw [← HL.out, h1, h2]; rfl)) (by omega)
    clear hx
    go_wp2_with (first | (go_at_call 165; refine (isId_any _ _).mono ?_; rintro e w' ⟨rfl, rfl⟩; rw [h1]) | (go_at_call 189; refine (isValueH_any _ _).mono ?_; rintro e w' ⟨rfl, rfl⟩; rw [h2]))
    go_ret
    exact ⟨by rw [HC.out]; rfl, qBq⟩
   have hok : Hid ((inB (xs.getD k default).con 1 1000000000 && inB (xs.getD k default).val 1 2) = true) := by show _ = _; rw [← HL.out, h1, h2]; rfl
   cases k with
   | zero =>
    have HS2 : Hid (scanI (mrkAt xs) 1 = 0) := scanI_succ HS.out (mrkAt_zero hok.out)
    clear hx
    simp only [Nat.zero_mul, Nat.add_zero] at a1 a2
    go_wp2_with (first | (go_at_call 165; refine (isId_any _ _).mono ?_; rintro e w' ⟨rfl, rfl⟩; rw [h1]) | (go_at_call 189; refine (isValueH_any _ _).mono ?_; rintro e w' ⟨rfl, rfl⟩; rw [h2]))
    go_quiet (fail)
    go_wp2
    exact ⟨⟨1, by omega, by go_num, HS2, bdrewN (qBq) _⟩, by simp [intOf]; omega⟩
   | succ m =>
    obtain ⟨bx', ox', he, g2⟩ := hx m (by omega)
    simp only [Option.some.injEq, Addr.mk.injEq, and_true] at he
    obtain ⟨rfl, rfl⟩ := he
    obtain ⟨l', hl'⟩ : ∃ l', l' = xs.getD m default := ⟨_, rfl⟩
    rw [← hl'] at g2
    have HL' : Hid (l' = xs.getD m default) := hl'
    clear hl' hx
    obtain ⟨a3, a4⟩ := mrkCells_below hbl g2
    have hw1 : IntKind.i64.wrap (((m + 1 : Nat) : Int) - 1) = (m : Int) := by rw [IntKind.wrap_i64]; omega
    have hw2 : (((m + 1 : Nat) : Int) - 1) = (m : Int) := by omega
    have hw3 : IntKind.i64.wrap (m : Int) = (m : Int) := wrapId (by omega) (by omega)
    have e1 : ((m + 1 : Nat) : Int) < n := by omega
    have e2 : (m : Int) < n := by omega
    have e3 : (0 : Int) ≤ m := by omega
    have e4 : (0 : Int) < ((m + 1 : Nat) : Int) := by omega
    have e5 : (0 : Int) ≤ ((m + 1 : Nat) : Int) := by omega
    have HFa : Hid (l.con ≤ l'.con → mrkF xs = 1) := fun h => HH.out (m + 1) 1 hlt HS.out (mrkAt_fall hok.out (by rw [← HL.out, ← HL'.out]; exact h)) (by omega)
    have HRi : Hid (l'.con < l.con → scanI (mrkAt xs) (m + 1 + 1) = 0) := fun h => scanI_succ HS.out (mrkAt_rise hok.out (by rw [← HL.out, ← HL'.out]; exact h))
    clear hok
    obtain ⟨ii, hii⟩ : ∃ ii : Nat, ii = m + 1 := ⟨_, rfl⟩
    have HII : Hid (ii = m + 1) := hii
    rw [← hii] at a1 a2 hw1 hw2 e1 e4 e5 HRi ⊢
    clear hii HS
    have e6 : decide (0 < ii) = true := decide_eq_true (by have := HII.out; omega)
    by_cases hle : l.con ≤ l'.con
    ·
     have HC := HFa.out hle
     go_wp2_with (first | (go_at_call 165; refine (isId_any _ _).mono ?_; rintro e w' ⟨rfl, rfl⟩; rw [h1]) | (go_at_call 189; refine (isValueH_any _ _).mono ?_; rintro e w' ⟨rfl, rfl⟩; rw [h2]))
     go_quiet (fail)
     go_wp2; go_ret
     exact ⟨by rw [HC]; rfl, bdrewN (qBq) _⟩
    ·
     have HS2 : Hid (scanI (mrkAt xs) (ii + 1) = 0) := HRi.out (by omega)
     go_wp2_with (first | (go_at_call 165; refine (isId_any _ _).mono ?_; rintro e w' ⟨rfl, rfl⟩; rw [h1]) | (go_at_call 189; refine (isValueH_any _ _).mono ?_; rintro e w' ⟨rfl, rfl⟩; rw [h2]))
     go_quiet (fail)
     go_wp2
     exact ⟨⟨ii + 1, by omega, by go_num, HS2, bdrewN (qBq) _⟩, by simp [intOf]; omega⟩
  ·
   have hkn : k = n := by omega
   subst hkn
   have HC := HE.out HS.out
   go_wp2; go_ret
   exact ⟨by rw [HC]; rfl, qBq⟩
theorem marksO_any (x : Value) (xs : List Mrk) (w : World) (hx : mrksR.V w x xs) :
  Calls Tryz.prog 188 #[x, .func (.func 190) #[] #[]] w fun e w' => e = .returned (.int .i64 (mrkF xs)) ∧ Below w.heap.size w w' := by
 obtain ⟨ax, cx, rfl, hcx, hmx, hx⟩ := hx
 unfold maxLen at hmx
 have HH : Hid (∀ k c, k < xs.length → scanI (mrkAt xs) k = 0 → mrkAt xs k = c → c ≠ 0 → mrkF xs = c) := fun k c hk hs h hc => mrkF_hit hk hs h hc
 have HE : Hid (scanI (mrkAt xs) xs.length = 0 → mrkF xs = 0) := fun h => h
 generalize hn' : xs.length = n at *
 clear hn'
 have eg := enters_of Tryz.func190 (by kernel_rfl) rfl
 go_enter Tryz.func188, Tryz.ntmps188
 go_wp2
 go_loopw [9] (fun i w' => ∃ k : Nat, k ≤ n ∧ i = .int .i64 k ∧ Hid (scanI (mrkAt xs) k = 0) ∧ Below w.heap.size w w') (fun i _ => n - (intOf i).toNat)
 case atStart => exact ⟨0, Nat.zero_le _, rfl, rfl, Below.refl _ _⟩
 case round =>
  obtain ⟨k, hk, rfl, HS, hbl⟩ := hrel
  by_cases hlt : k < n
  ·
   obtain ⟨bx, ox, rfl, g1⟩ := hx k hlt
   obtain ⟨l, hl⟩ : ∃ l, l = xs.getD k default := ⟨_, rfl⟩
   rw [← hl] at g1
   have HL : Hid (l = xs.getD k default) := hl
   clear hl
   obtain ⟨a1, a2⟩ := mrkCells_below hbl g1
   have zb : bx < wr.heap.size := wL wr _ a1
   cases h1 : inB l.con 1 1000000000
   ·
    have HC : Hid (mrkF xs = 3) := HH.out k 3 hlt HS.out (mrkAt_bad (by rw [← HL.out, h1]; rfl)) (by omega)
    clear hx
    go_wp2_with (first | (go_at_call 165; refine (isId_any _ _).mono ?_; rintro e w' ⟨rfl, rfl⟩; rw [h1]))
    go_ret
    exact ⟨by rw [HC.out]; rfl, qBq⟩
   cases h2 : inB l.val 1 2
   ·
    have HC : Hid (mrkF xs = 3) := HH.out k 3 hlt HS.out (mrkAt_bad (by rw [← HL.out, h1, h2]; rfl)) (by omega)
    clear hx
    go_wp2_with (first | (go_at_call 165; refine (isId_any _ _).mono ?_; rintro e w' ⟨rfl, rfl⟩; rw [h1]) | (go_at_call 190; refine (isOutcomeH_any _ _).mono ?_; rintro e w' ⟨rfl, rfl⟩; rw [h2]))
    go_ret
    exact ⟨by rw [HC.out]; rfl, qBq⟩
   have hok : Hid ((inB (xs.getD k default).con 1 1000000000 && inB (xs.getD k default).val 1 2) = true) := by show _ = _; rw [← HL.out, h1, h2]; rfl
   cases k with
   | zero =>
    have HS2 : Hid (scanI (mrkAt xs) 1 = 0) := scanI_succ HS.out (mrkAt_zero hok.out)
    clear hx
    simp only [Nat.zero_mul, Nat.add_zero] at a1 a2
    go_wp2_with (first | (go_at_call 165; refine (isId_any _ _).mono ?_; rintro e w' ⟨rfl, rfl⟩; rw [h1]) | (go_at_call 190; refine (isOutcomeH_any _ _).mono ?_; rintro e w' ⟨rfl, rfl⟩; rw [h2]))
    go_quiet (fail)
    go_wp2
    exact ⟨⟨1, by omega, by go_num, HS2, bdrewN (qBq) _⟩, by simp [intOf]; omega⟩
   | succ m =>
    obtain ⟨bx', ox', he, g2⟩ := hx m (by omega)
    simp only [Option.some.injEq, Addr.mk.injEq, and_true] at he
    obtain ⟨rfl, rfl⟩ := he
    obtain ⟨l', hl'⟩ : ∃ l', l' = xs.getD m default := ⟨_, rfl⟩
    rw [← hl'] at g2
    have HL' : Hid (l' = xs.getD m default) := hl'
    clear hl' hx
    obtain ⟨a3, a4⟩ := mrkCells_below hbl g2
    have hw1 : IntKind.i64.wrap (((m + 1 : Nat) : Int) - 1) = (m : Int) := by rw [IntKind.wrap_i64]; omega
    have hw2 : (((m + 1 : Nat) : Int) - 1) = (m : Int) := by omega
    have hw3 : IntKind.i64.wrap (m : Int) = (m : Int) := wrapId (by omega) (by omega)
    have e1 : ((m + 1 : Nat) : Int) < n := by omega
    have e2 : (m : Int) < n := by omega
    have e3 : (0 : Int) ≤ m := by omega
    have e4 : (0 : Int) < ((m + 1 : Nat) : Int) := by omega
    have e5 : (0 : Int) ≤ ((m + 1 : Nat) : Int) := by omega
    have HFa : Hid (l.con ≤ l'.con → mrkF xs = 1) := fun h => HH.out (m + 1) 1 hlt HS.out (mrkAt_fall hok.out (by rw [← HL.out, ← HL'.out]; exact h)) (by omega)
    have HRi : Hid (l'.con < l.con → scanI (mrkAt xs) (m + 1 + 1) = 0) := fun h => scanI_succ HS.out (mrkAt_rise hok.out (by rw [← HL.out, ← HL'.out]; exact h))
    clear hok
    obtain ⟨ii, hii⟩ : ∃ ii : Nat, ii = m + 1 := ⟨_, rfl⟩
    have HII : Hid (ii = m + 1) := hii
    rw [← hii] at a1 a2 hw1 hw2 e1 e4 e5 HRi ⊢
    clear hii HS
    have e6 : decide (0 < ii) = true := decide_eq_true (by have := HII.out; omega)
    by_cases hle : l.con ≤ l'.con
    ·
     have HC := HFa.out hle
     go_wp2_with (first | (go_at_call 165; refine (isId_any _ _).mono ?_; rintro e w' ⟨rfl, rfl⟩; rw [h1]) | (go_at_call 190; refine (isOutcomeH_any _ _).mono ?_; rintro e w' ⟨rfl, rfl⟩; rw [h2]))
     go_quiet (fail)
     go_wp2; go_ret
     exact ⟨by rw [HC]; rfl, bdrewN (qBq) _⟩
    ·
     have HS2 : Hid (scanI (mrkAt xs) (ii + 1) = 0) := HRi.out (by omega)
     go_wp2_with (first | (go_at_call 165; refine (isId_any _ _).mono ?_; rintro e w' ⟨rfl, rfl⟩; rw [h1]) | (go_at_call 190; refine (isOutcomeH_any _ _).mono ?_; rintro e w' ⟨rfl, rfl⟩; rw [h2]))
     go_quiet (fail)
     go_wp2
     exact ⟨⟨ii + 1, by omega, by go_num, HS2, bdrewN (qBq) _⟩, by simp [intOf]; omega⟩
  ·
   have hkn : k = n := by omega
   subst hkn
   have HC := HE.out HS.out
   go_wp2; go_ret
   exact ⟨by rw [HC]; rfl, qBq⟩
theorem isDone_any (x : Value) (d : Shd) (c : Int) (w : World) (hx : shdR.V w x d) (hn : d.done.length ≤ 1048576) (hok : MrksOk d.done) :
  Calls Tryz.prog 57 #[x, .int .i64 c] w fun e w' => e = .returned (.bool (findM c d.done != 0)) ∧ Below w.heap.size w w' := by
 obtain ⟨u1, u2, u3, u4, u5, rfl, h1, h2, h3, h4, h5⟩ := hx
 have HV : Hid (∀ W, Below w.heap.size w W → Calls Tryz.prog 109 #[u4, .int .i64 c] W fun e w' => e = .returned (.int .i64 (findM c d.done)) ∧ Below W.heap.size W w') := fun W hW => valueIn_any u4 _ c W (mrksR.below h4 hW) hn hok.rise
 obtain ⟨a1, c1, rfl⟩ := bals_form h1
 obtain ⟨a2, c2, rfl⟩ := mrks_form h2
 obtain ⟨a3, c3, rfl⟩ := conts_form h3
 obtain ⟨a4, c4, rfl⟩ := mrks_form h4
 obtain ⟨a5, c5, rfl⟩ := ints_form h5
 clear h1 h2 h3 h4 h5 hok hn
 generalize d.bals.length = n1 at *
 generalize d.votes.length = n2 at *
 generalize d.held.length = n3 at *
 generalize d.done.length = n4 at *
 generalize d.appl.length = n5 at *
 generalize findM c d.done = f at *
 go_enter Tryz.func57, Tryz.ntmps57
 go_wp2_with (first | (go_at_call 109; refine (HV.out _ (qBq)).mono ?_; rintro e w1 ⟨rfl, hb1⟩))
 go_ret
 exact ⟨rfl, qBq⟩
def awaitB (d : Shd) (c : Int) : Bool := (findM c d.votes == 1) && !(findM c d.done != 0)
theorem awaits_any (x : Value) (d : Shd) (c : Int) (w : World) (hx : shdR.V w x d) (hn : d.votes.length ≤ 1048576 ∧ d.done.length ≤ 1048576) (hov : MrksOk d.votes) (hod : MrksOk d.done) :
  Calls Tryz.prog 220 #[x, .int .i64 c] w fun e w' => e = .returned (.bool (awaitB d c)) ∧ Below w.heap.size w w' := by
 have HD : Hid (∀ W, Below w.heap.size w W → Calls Tryz.prog 57 #[x, .int .i64 c] W fun e w' => e = .returned (.bool (findM c d.done != 0)) ∧ Below W.heap.size W w') := fun W hW => isDone_any x d c W (shdR.below hx hW) hn.2 hod
 obtain ⟨u1, u2, u3, u4, u5, rfl, h1, h2, h3, h4, h5⟩ := hx
 have HV : Hid (∀ W, Below w.heap.size w W → Calls Tryz.prog 109 #[u2, .int .i64 c] W fun e w' => e = .returned (.int .i64 (findM c d.votes)) ∧ Below W.heap.size W w') := fun W hW => valueIn_any u2 _ c W (mrksR.below h2 hW) hn.1 hov.rise
 obtain ⟨a1, c1, rfl⟩ := bals_form h1
 obtain ⟨a2, c2, rfl⟩ := mrks_form h2
 obtain ⟨a3, c3, rfl⟩ := conts_form h3
 obtain ⟨a4, c4, rfl⟩ := mrks_form h4
 obtain ⟨a5, c5, rfl⟩ := ints_form h5
 clear h1 h2 h3 h4 h5 hov hod hn
 generalize d.bals.length = n1 at *
 generalize d.votes.length = n2 at *
 generalize d.held.length = n3 at *
 generalize d.done.length = n4 at *
 generalize d.appl.length = n5 at *
 unfold awaitB
 generalize findM c d.done = f at *
 generalize findM c d.votes = g at *
 by_cases hg : g = 1
 ·
  have hg' : (g == 1) = true := by simp [hg]
  rw [hg']
  go_enter Tryz.func220, Tryz.ntmps220
  go_wp2_with fail
  refine (HV.out _ (qBq)).mono ?_
  rintro e w1 ⟨rfl, hb1⟩
  have hB1 : Below w.heap.size w w1 := bS (qBq) hb1
  have y0 : w1.cell? ⟨w.heap.size, 0, none⟩ = some (.int .i64 d.idx) := cK hb1 (by simp [go_sem])
  have y1 : w1.cell? ⟨w.heap.size, 1, none⟩ = some (.slice a1 n1 c1) := cK hb1 (by simp [go_sem])
  have y2 : w1.cell? ⟨w.heap.size, 2, none⟩ = some (.slice a2 n2 c2) := cK hb1 (by simp [go_sem])
  have y3 : w1.cell? ⟨w.heap.size, 3, none⟩ = some (.slice a3 n3 c3) := cK hb1 (by simp [go_sem])
  have y4 : w1.cell? ⟨w.heap.size, 4, none⟩ = some (.slice a4 n4 c4) := cK hb1 (by simp [go_sem])
  have y5 : w1.cell? ⟨w.heap.size, 5, none⟩ = some (.slice a5 n5 c5) := cK hb1 (by simp [go_sem])
  clear hb1
  go_wp2_with (first | (go_at_call 57; refine (HD.out _ (qBq)).mono ?_; rintro e w2 ⟨rfl, hb2⟩))
  go_ret
  exact ⟨by simp, qBq⟩
 ·
  have hg' : (g == 1) = false := by simp [hg]
  rw [hg']
  go_enter Tryz.func220, Tryz.ntmps220
  go_wp2_with (first | (go_at_call 109; refine (HV.out _ (qBq)).mono ?_; rintro e w1 ⟨rfl, hb1⟩))
  go_ret
  exact ⟨by simp, qBq⟩
theorem lostAt_zero {d : Shd} {k : Nat} (h : (awaitB d (d.votes.getD k default).con && !heldIn d.held (d.votes.getD k default).con) = false) (hf : findM (d.votes.getD k default).con d.votes = (d.votes.getD k default).val) : lostAt d k = 0 := by
 unfold lostAt
 rw [if_neg]
 rintro ⟨h1, h2, h3⟩
 unfold awaitB at h
 rw [hf, h1, h2, h3] at h
 simp at h
theorem lostAt_one {d : Shd} {k : Nat} (h : (awaitB d (d.votes.getD k default).con && !heldIn d.held (d.votes.getD k default).con) = true) (hf : findM (d.votes.getD k default).con d.votes = (d.votes.getD k default).val) : lostAt d k = 1 := by
 unfold lostAt
 unfold awaitB at h
 rw [hf] at h
 simp at h
 rw [if_pos ⟨h.1.1, by simp [h.2], h.1.2⟩]
theorem findM_own {xs : List Mrk} (h : MrksOk xs) {k : Nat} (hk : k < xs.length) : findM (xs.getD k default).con xs = (xs.getD k default).val := by
 rw [findM_at (i := k) h.rise (by omega) (fun j hj => h.rise j k hj hk) (fun j hj hl => by
  by_cases e : k = j
  ·
   rw [e]; exact Int.le_refl _
  ·
   have := h.rise k j (by omega) hl; omega), if_pos ⟨hk, rfl⟩]
structure LsOk (d : Shd) : Prop where
 nv : d.votes.length ≤ 100
 nh : d.held.length ≤ 100
 nd : d.done.length ≤ 100
 na : d.appl.length ≤ 100
 ov : MrksOk d.votes
 od : MrksOk d.done
theorem forgot1_any (B : Nat) (x : Value) (d : Shd) (m : Mrk) (w : World) (hx : shdR.V w x d) (hB : ∃ c0 c1 c2 c3 c4 c5, x = .agg #[c0, c1, c2, c3, c4, c5] ∧ w.cell? ⟨B, 0, none⟩ = some (c0) ∧ w.cell? ⟨B, 1, none⟩ = some (c1) ∧ w.cell? ⟨B, 2, none⟩ = some (c2) ∧ w.cell? ⟨B, 3, none⟩ = some (c3) ∧ w.cell? ⟨B, 4, none⟩ = some (c4) ∧ w.cell? ⟨B, 5, none⟩ = some (c5)) (hok : LsOk d) (hh : HeldOk d) :
  Calls Tryz.prog 221 #[.agg #[.int .i64 m.con, .int .i64 m.val], .pointer (some ⟨B, 0, none⟩)] w fun e w' => e = .returned (.bool (awaitB d m.con && !heldIn d.held m.con)) ∧ Below w.heap.size w w' := by
 have HAw : Hid (∀ W, Below w.heap.size w W → Calls Tryz.prog 220 #[x, .int .i64 m.con] W fun e w' => e = .returned (.bool (awaitB d m.con)) ∧ Below W.heap.size W w') := fun W hW => awaits_any x d m.con W (shdR.below hx hW) ⟨by have := hok.nv; omega, by have := hok.nd; omega⟩ hok.ov hok.od
 have HIs : Hid (∀ W, Below w.heap.size w W → Calls Tryz.prog 222 #[x, .int .i64 m.con] W fun e w' => e = .returned (.bool (heldIn d.held m.con)) ∧ Below W.heap.size W w') := fun W hW => isHeld_any x d m.con W (shdR.below hx hW) (by have := hok.nh; omega) hh.rise
 obtain ⟨u1, u2, u3, u4, u5, rfl, h1, h2, h3, h4, h5⟩ := hx
 obtain ⟨a1, c1, rfl⟩ := bals_form h1
 obtain ⟨a2, c2, rfl⟩ := mrks_form h2
 obtain ⟨a3, c3, rfl⟩ := conts_form h3
 obtain ⟨a4, c4, rfl⟩ := mrks_form h4
 obtain ⟨a5, c5, rfl⟩ := ints_form h5
 obtain ⟨q0, q1, q2, q3, q4, q5, e, y0, y1, y2, y3, y4, y5⟩ := hB
 simp only [Value.agg.injEq, Array.mk.injEq, List.cons.injEq, and_true] at e
 obtain ⟨rfl, rfl, rfl, rfl, rfl, rfl⟩ := e
 clear h1 h2 h3 h4 h5 hok hh
 generalize d.bals.length = n1 at *
 generalize d.votes.length = n2 at *
 generalize d.held.length = n3 at *
 generalize d.done.length = n4 at *
 generalize d.appl.length = n5 at *
 have zB : B < w.heap.size := wL w _ y0
 cases ha : awaitB d m.con
 ·
  rw [ha] at HAw
  go_enter Tryz.func221, Tryz.ntmps221
  go_wp2_with (first | (go_at_call 220; refine (HAw.out _ (qBq)).mono ?_; rintro e w1 ⟨rfl, hb1⟩))
  go_ret
  exact ⟨by rfl, qBq⟩
 ·
  rw [ha] at HAw
  go_enter Tryz.func221, Tryz.ntmps221
  go_wp2_with fail
  refine (HAw.out _ (qBq)).mono ?_
  rintro e w1 ⟨rfl, hb1⟩
  have hB1 : Below w.heap.size w w1 := bS (qBq) hb1
  have g0 : w1.cell? ⟨w.heap.size, 0, none⟩ = some (.int .i64 m.con) := cK hb1 (by simp [go_sem])
  replace y0 := cK hB1 y0
  replace y1 := cK hB1 y1
  replace y2 := cK hB1 y2
  replace y3 := cK hB1 y3
  replace y4 := cK hB1 y4
  replace y5 := cK hB1 y5
  clear hb1
  go_wp2_with (first | (go_at_call 222; refine (HIs.out _ (qBq)).mono ?_; rintro e w2 ⟨rfl, hb2⟩))
  go_ret
  exact ⟨by simp, qBq⟩
theorem indexForg_any (B : Nat) (x v : Value) (d : Shd) (w : World) (hx : shdR.V w x d) (hv : mrksR.V w v d.votes) (hB : ∃ c0 c1 c2 c3 c4 c5, x = .agg #[c0, c1, c2, c3, c4, c5] ∧ w.cell? ⟨B, 0, none⟩ = some (c0) ∧ w.cell? ⟨B, 1, none⟩ = some (c1) ∧ w.cell? ⟨B, 2, none⟩ = some (c2) ∧ w.cell? ⟨B, 3, none⟩ = some (c3) ∧ w.cell? ⟨B, 4, none⟩ = some (c4) ∧ w.cell? ⟨B, 5, none⟩ = some (c5)) (hok : LsOk d) (hh : HeldOk d) :
  Calls Tryz.prog 197 #[v, .func (.func 221) #[] #[.pointer (some ⟨B, 0, none⟩)]] w fun e w' => ∃ i : Int, e = .returned (.int .i64 i) ∧ (0 ≤ i ↔ ¬ scanI (lostAt d) d.votes.length = 0) ∧ Below w.heap.size w w' := by
 have HF : Hid (∀ W (m : Mrk), Below w.heap.size w W → Calls Tryz.prog 221 #[.agg #[.int .i64 m.con, .int .i64 m.val], .pointer (some ⟨B, 0, none⟩)] W fun e w' => e = .returned (.bool (awaitB d m.con && !heldIn d.held m.con)) ∧ Below W.heap.size W w') := fun W m hW => forgot1_any B x d m W (shdR.below hx hW) (by
  obtain ⟨c0, c1, c2, c3, c4, c5, e, g0, g1, g2, g3, g4, g5⟩ := hB
  exact ⟨c0, c1, c2, c3, c4, c5, e, cK hW g0, cK hW g1, cK hW g2, cK hW g3, cK hW g4, cK hW g5⟩) hok hh
 obtain ⟨ax, cx, rfl, hcx, hmx, hx2⟩ := hv
 unfold maxLen at hmx
 have HX : Hid (∀ i, i < d.votes.length → ∃ b o, ax = some ⟨b, o, none⟩ ∧ mrkCells w b (o + i * 2) (d.votes.getD i default)) := hx2
 have HZ : Hid (∀ k, k < d.votes.length → (awaitB d (d.votes.getD k default).con && !heldIn d.held (d.votes.getD k default).con) = false → lostAt d k = 0) := fun k hk h => lostAt_zero h (findM_own hok.ov hk)
 have HO : Hid (∀ k, k < d.votes.length → (awaitB d (d.votes.getD k default).con && !heldIn d.held (d.votes.getD k default).con) = true → scanI (lostAt d) k = 0 → ¬ scanI (lostAt d) d.votes.length = 0) := fun k hk h hs => by
  have h1 := lostAt_one h (findM_own hok.ov hk)
  rw [scanI_hit hs (by rw [h1]; omega) _ hk, h1]
  omega
 clear hx hB hok hh hx2
 generalize hn : d.votes.length = n at *
 clear hn
 have eg := enters_of Tryz.func221 (by kernel_rfl) rfl
 go_enter Tryz.func197, Tryz.ntmps197
 go_wp2
 go_loopw [8] (fun i w' => ∃ k : Nat, k ≤ n ∧ i = .int .i64 k ∧ Hid (scanI (lostAt d) k = 0) ∧ Below w.heap.size w w') (fun i _ => n - (intOf i).toNat)
 case atStart => exact ⟨0, Nat.zero_le _, rfl, rfl, Below.refl _ _⟩
 case round =>
  obtain ⟨k, hk, rfl, HS, hbl⟩ := hrel
  by_cases hlt : k < n
  ·
   obtain ⟨bx, ox, rfl, g1⟩ := HX.out k hlt
   have h1 := HZ.out k hlt
   have h2 := HO.out k hlt
   obtain ⟨l, hl⟩ : ∃ l, l = d.votes.getD k default := ⟨_, rfl⟩
   rw [← hl] at g1 h1 h2
   have HF1 : Hid (∀ W, Below w.heap.size w W → Calls Tryz.prog 221 #[.agg #[.int .i64 l.con, .int .i64 l.val], .pointer (some ⟨B, 0, none⟩)] W fun e w' => e = .returned (.bool (awaitB d l.con && !heldIn d.held l.con)) ∧ Below W.heap.size W w') := fun W hW => HF.out W l hW
   generalize (awaitB d l.con && !heldIn d.held l.con) = bb at *
   have H1 : Hid (bb = false → lostAt d k = 0) := h1
   have H2 : Hid (bb = true → scanI (lostAt d) k = 0 → ¬ scanI (lostAt d) n = 0) := h2
   clear hl h1 h2
   obtain ⟨g2, g3⟩ := mrkCells_below hbl g1
   clear g1
   cases hbb : bb
   ·
    have HC : Hid (scanI (lostAt d) (k + 1) = 0) := scanI_succ HS.out (H1.out hbb)
    rw [hbb] at HF1
    clear H1 H2 HS hbb
    go_wp2_with (first | (go_at_call 221; refine (HF1.out _ (qBq)).mono ?_; rintro e w1 ⟨rfl, hb1⟩))
    exact ⟨⟨k + 1, by omega, by go_num, HC, qBq⟩, by simp [intOf]; omega⟩
   ·
    have HC := H2.out hbb HS.out
    rw [hbb] at HF1
    clear H1 H2 hbb
    have HCh : Hid (¬ scanI (lostAt d) n = 0) := HC
    clear HC
    go_wp2_with (first | (go_at_call 221; refine (HF1.out _ (qBq)).mono ?_; rintro e w1 ⟨rfl, hb1⟩))
    go_ret
    exact ⟨k, rfl, ⟨fun _ => HCh.out, fun _ => by omega⟩, qBq⟩
  ·
   have hkn : k = n := by omega
   subst hkn
   go_wp2; go_ret
   exact ⟨-1, rfl, ⟨fun h => absurd h (by omega), fun h => absurd HS.out h⟩, qBq⟩
theorem forgotten_any (x : Value) (d : Shd) (w : World) (hx : shdR.V w x d) (hok : LsOk d) (hh : HeldOk d) :
  Calls Tryz.prog 192 #[x] w fun e w' => e = .returned (.bool (decide (¬ scanI (lostAt d) d.votes.length = 0))) ∧ Below w.heap.size w w' := by
 have HI : Hid (∀ W v, Below w.heap.size w W → mrksR.V W v d.votes → (∃ c0 c1 c2 c3 c4 c5, x = .agg #[c0, c1, c2, c3, c4, c5] ∧ W.cell? ⟨w.heap.size, 0, none⟩ = some (c0) ∧ W.cell? ⟨w.heap.size, 1, none⟩ = some (c1) ∧ W.cell? ⟨w.heap.size, 2, none⟩ = some (c2) ∧ W.cell? ⟨w.heap.size, 3, none⟩ = some (c3) ∧ W.cell? ⟨w.heap.size, 4, none⟩ = some (c4) ∧ W.cell? ⟨w.heap.size, 5, none⟩ = some (c5)) → Calls Tryz.prog 197 #[v, .func (.func 221) #[] #[.pointer (some ⟨w.heap.size, 0, none⟩)]] W fun e w' => ∃ i : Int, e = .returned (.int .i64 i) ∧ (0 ≤ i ↔ ¬ scanI (lostAt d) d.votes.length = 0) ∧ Below W.heap.size W w') := fun W v hW hv hB => indexForg_any w.heap.size x v d W (shdR.below hx hW) hv hB hok hh
 obtain ⟨u1, u2, u3, u4, u5, rfl, h1, h2, h3, h4, h5⟩ := hx
 have HV : Hid (∀ W, Below w.heap.size w W → mrksR.V W u2 d.votes) := fun W hW => mrksR.below h2 hW
 obtain ⟨a1, c1, rfl⟩ := bals_form h1
 obtain ⟨a2, c2, rfl⟩ := mrks_form h2
 obtain ⟨a3, c3, rfl⟩ := conts_form h3
 obtain ⟨a4, c4, rfl⟩ := mrks_form h4
 obtain ⟨a5, c5, rfl⟩ := ints_form h5
 clear h1 h2 h3 h4 h5 hok hh
 obtain ⟨pz, hpz⟩ : ∃ pz : Prop, pz = ¬ scanI (lostAt d) d.votes.length = 0 := ⟨_, rfl⟩
 have e9 : decide (¬ scanI (lostAt d) d.votes.length = 0) = !decide (scanI (lostAt d) d.votes.length = 0) := by simp
 rw [e9]
 clear e9 hpz pz
 generalize d.bals.length = n1 at *
 generalize d.votes.length = n2 at *
 generalize d.held.length = n3 at *
 generalize d.done.length = n4 at *
 generalize d.appl.length = n5 at *
 generalize scanI (lostAt d) n2 = sc at *
 have hmf : ∀ (fn : Fn) (first cap : Array Value) (w : World), (Instr.makeFunc fn first cap).run Tryz.prog w = .ok (.func fn first cap) w := fun _ _ _ _ => rfl
 have HCF : Hid (∀ W, Below w.heap.size w W → W.cell? ⟨w.heap.size, 0, none⟩ = some (.int .i64 d.idx) → W.cell? ⟨w.heap.size, 1, none⟩ = some (.slice a1 n1 c1) → W.cell? ⟨w.heap.size, 2, none⟩ = some (.slice a2 n2 c2) → W.cell? ⟨w.heap.size, 3, none⟩ = some (.slice a3 n3 c3) → W.cell? ⟨w.heap.size, 4, none⟩ = some (.slice a4 n4 c4) → W.cell? ⟨w.heap.size, 5, none⟩ = some (.slice a5 n5 c5) → Calls Tryz.prog 144 #[.slice a2 n2 c2, .func (.func 221) #[] #[.pointer (some ⟨w.heap.size, 0, none⟩)]] W fun e w' => e = .returned (.bool (!decide (sc = 0))) ∧ Below W.heap.size W w') := fun W hW g0 g1 g2 g3 g4 g5 => by
  have hc := HI.out W (.slice a2 n2 c2) hW (HV.out W hW) ⟨_, _, _, _, _, _, rfl, g0, g1, g2, g3, g4, g5⟩
  clear HI HV
  go_enter Tryz.func144, Tryz.ntmps144
  go_wp2_with fail
  refine hc.mono ?_
  rintro e w1 ⟨i, rfl, hi, hb1⟩
  have HI1 : Hid (decide (0 ≤ i) = !decide (sc = 0)) := by
   show _ = _
   rw [Bool.eq_iff_iff]
   simp
   exact hi
  clear hi hc
  go_wp2; go_ret
  exact ⟨by rw [← HI1.out]; rfl, qBq⟩
 go_enter Tryz.func192, Tryz.ntmps192
 go_wp2_with fail
 refine (HCF.out _ (qBq) (by simp [go_sem]) (by simp [go_sem]) (by simp [go_sem]) (by simp [go_sem]) (by simp [go_sem]) (by simp [go_sem])).mono ?_
 rintro e w1 ⟨rfl, hb1⟩
 go_wp2; go_ret
 exact ⟨rfl, qBq⟩
end Go.Proofs.YtackhljepbhpgaaGreat

