import Derived.Test.YtndghenlapbaaaaGreatDoorPrnShardTextLaw18
import Derived.Test.YtndghenlapbaaaaGreatDoorShD
import Derived.BigQuiet
import Derived.Deep.QuietTactic
import Derived.Deep.RegionHeld3
import Derived.Test.YtndghenlapbaaaaGreatDoorPrnShardTextLaw3
import Derived.Test.YtndghenlapbaaaaGreatDoorPrnShardTextLaw15
import Derived.Test.YtndghenlapbaaaaGreatDoorPrnShardTextLaw12
import Derived.Test.YtndghenlapbaaaaGreatDoorPrnShardTextLaw8
import Derived.Test.YtndghenlapbaaaaGreatDoorPrnShardTextLaw16
import Derived.WalkKit
import Derived.OwnWalkIn
import Derived.TacticsInMore
import Derived.LoopNIn
import Derived.LoopIn
import Derived.Maps.OwnIn
import Derived.Maps.AppendAt
import Derived.Test.YtndghenlapbaaaaGreatDoorPrnShardTextLaw17

/-
  What a shard has forgotten, the program's.
-/
set_option linter.unusedSimpArgs false
set_option linter.unusedVariables false
namespace Go.Proofs.YtndghenlapbaaaaGreatDoor
open Go.RowKit
set_option linter.unusedSectionVars false
variable [DecidableEq Rw] [Inhabited Rw] [DecidableEq Bal] [Inhabited Bal] [DecidableEq Ledg] [Inhabited Ledg] [DecidableEq Leg] [Inhabited Leg] [DecidableEq Cont] [Inhabited Cont] [DecidableEq LedgR] [Inhabited LedgR] [DecidableEq OutcR] [Inhabited OutcR] [DecidableEq Mrk] [Inhabited Mrk] [DecidableEq Shd] [Inhabited Shd] [DecidableEq ShdR] [Inhabited ShdR]
attribute [local go_sem ↓] Go.wp_at_zero Go.wp_at_succ

theorem lostAt_zero {d : Shd} {k : Nat} (h : (awaitB d (d.votes.getD k default).con && !heldIn d.held (d.votes.getD k default).con) = false) (hf : findM (d.votes.getD k default).con d.votes = (d.votes.getD k default).val) : lostAt d k = 0 := by
  unfold lostAt
  rw [if_neg]
  rintro ⟨h1, h2, h3⟩
  unfold awaitB at h
  rw [hf, h1, h2, h3] at h
  simp at h
theorem lostAt_one {d : Shd} {k : Nat} (h : (awaitB d (d.votes.getD k default).con && !heldIn d.held (d.votes.getD k default).con) = true) (hf : findM (d.votes.getD k default).con d.votes = (d.votes.getD k default).val) : lostAt d k = 1 := by
  unfold lostAt
  unfold awaitB at h
  rw [hf] at h
  simp at h
  rw [if_pos ⟨h.1.1, by simp [h.2], h.1.2⟩]
theorem findM_own {xs : List Mrk} (h : MrksOk xs) {k : Nat} (hk : k < xs.length) : findM (xs.getD k default).con xs = (xs.getD k default).val := by
  rw [findM_at (i := k) h.rise (by omega) (fun j hj => h.rise j k hj hk) (fun j hj hl => by
    by_cases e : k = j
    · rw [e]; exact Int.le_refl _
    · have := h.rise k j (by omega) hl; omega), if_pos ⟨hk, rfl⟩]
structure LsOk (d : Shd) : Prop where
  nv : d.votes.length ≤ 100
  nh : d.held.length ≤ 100
  nd : d.done.length ≤ 100
  na : d.appl.length ≤ 100
  ov : MrksOk d.votes
  od : MrksOk d.done
set_option maxRecDepth 20000 in
set_option maxHeartbeats 4000000 in
theorem forgot1_any (B : Nat) (x : Value) (d : Shd) (m : Mrk) (w : World) (hx : shdR.V w x d) (hB : ∃ c0 c1 c2 c3 c4 c5, x = .agg #[c0, c1, c2, c3, c4, c5] ∧ w.cell? ⟨B, 0, none⟩ = some (c0) ∧ w.cell? ⟨B, 1, none⟩ = some (c1) ∧ w.cell? ⟨B, 2, none⟩ = some (c2) ∧ w.cell? ⟨B, 3, none⟩ = some (c3) ∧ w.cell? ⟨B, 4, none⟩ = some (c4) ∧ w.cell? ⟨B, 5, none⟩ = some (c5)) (hok : LsOk d) (hh : HeldOk d) :
    Calls Tryz.prog 91 #[.agg #[.int .i64 m.con, .int .i64 m.val], .pointer (some ⟨B, 0, none⟩)] w fun e w' => e = .returned (.bool (awaitB d m.con && !heldIn d.held m.con)) ∧ Below w.heap.size w w' := by
  have HAw : Hid (∀ W, Below w.heap.size w W → Calls Tryz.prog 89 #[x, .int .i64 m.con] W fun e w' => e = .returned (.bool (awaitB d m.con)) ∧ Below W.heap.size W w') := fun W hW => awaits_any x d m.con W (shdR.below hx hW) ⟨by have := hok.nv; omega, by have := hok.nd; omega⟩ hok.ov hok.od
  have HIs : Hid (∀ W, Below w.heap.size w W → Calls Tryz.prog 92 #[x, .int .i64 m.con] W fun e w' => e = .returned (.bool (heldIn d.held m.con)) ∧ Below W.heap.size W w') := fun W hW => isHeld_any x d m.con W (shdR.below hx hW) (by have := hok.nh; omega) hh.rise
  obtain ⟨u1, u2, u3, u4, u5, rfl, h1, h2, h3, h4, h5⟩ := hx
  obtain ⟨a1, c1, rfl⟩ := bals_form h1
  obtain ⟨a2, c2, rfl⟩ := mrks_form h2
  obtain ⟨a3, c3, rfl⟩ := conts_form h3
  obtain ⟨a4, c4, rfl⟩ := mrks_form h4
  obtain ⟨a5, c5, rfl⟩ := ints_form h5
  obtain ⟨q0, q1, q2, q3, q4, q5, e, y0, y1, y2, y3, y4, y5⟩ := hB
  simp only [Value.agg.injEq, Array.mk.injEq, List.cons.injEq, and_true] at e
  obtain ⟨rfl, rfl, rfl, rfl, rfl, rfl⟩ := e
  clear h1 h2 h3 h4 h5 hok hh
  generalize d.bals.length = n1 at *
  generalize d.votes.length = n2 at *
  generalize d.held.length = n3 at *
  generalize d.done.length = n4 at *
  generalize d.appl.length = n5 at *
  have zB : B < w.heap.size := World.block_lt_of_cell? w _ y0
  cases ha : awaitB d m.con
  · rw [ha] at HAw
    go_enter Tryz.func91, Tryz.ntmps91
    go_wp2_with (first | (go_at_call 89; refine (HAw.out _ (by (repeat (first | exact Below.refl _ _ | assumption | refine Below.drew ?_ | refine balloc ?_ _ | refine bset ?_ (by simp; omega) _ | refine bset ?_ (by simp) _ | refine bstep ?_ (by assumption))))).mono ?_; rintro e w1 ⟨rfl, hb1⟩))
    go_ret
    exact ⟨by rfl, by (repeat (first | exact Below.refl _ _ | assumption | refine Below.drew ?_ | refine balloc ?_ _ | refine bset ?_ (by simp; omega) _ | refine bset ?_ (by simp) _ | refine bstep ?_ (by assumption)))⟩
  · rw [ha] at HAw
    go_enter Tryz.func91, Tryz.ntmps91
    go_wp2_with fail
    refine (HAw.out _ (by (repeat (first | exact Below.refl _ _ | assumption | refine Below.drew ?_ | refine balloc ?_ _ | refine bset ?_ (by simp; omega) _ | refine bset ?_ (by simp) _ | refine bstep ?_ (by assumption))))).mono ?_
    rintro e w1 ⟨rfl, hb1⟩
    have hB1 : Below w.heap.size w w1 := bstep (by (repeat (first | exact Below.refl _ _ | assumption | refine Below.drew ?_ | refine balloc ?_ _ | refine bset ?_ (by simp; omega) _ | refine bset ?_ (by simp) _ | refine bstep ?_ (by assumption)))) hb1
    have g0 : w1.cell? ⟨w.heap.size, 0, none⟩ = some (.int .i64 m.con) := cell_keep hb1 (by simp [go_sem])
    replace y0 := cell_keep hB1 y0
    replace y1 := cell_keep hB1 y1
    replace y2 := cell_keep hB1 y2
    replace y3 := cell_keep hB1 y3
    replace y4 := cell_keep hB1 y4
    replace y5 := cell_keep hB1 y5
    clear hb1
    go_wp2_with (first | (go_at_call 92; refine (HIs.out _ (by (repeat (first | exact Below.refl _ _ | assumption | refine Below.drew ?_ | refine balloc ?_ _ | refine bset ?_ (by simp; omega) _ | refine bset ?_ (by simp) _ | refine bstep ?_ (by assumption))))).mono ?_; rintro e w2 ⟨rfl, hb2⟩))
    go_ret
    exact ⟨by simp, by (repeat (first | exact Below.refl _ _ | assumption | refine Below.drew ?_ | refine balloc ?_ _ | refine bset ?_ (by simp; omega) _ | refine bset ?_ (by simp) _ | refine bstep ?_ (by assumption)))⟩
set_option maxRecDepth 20000 in
set_option maxHeartbeats 4000000 in
theorem indexForg_any (B : Nat) (x v : Value) (d : Shd) (w : World) (hx : shdR.V w x d) (hv : mrksR.V w v d.votes) (hB : ∃ c0 c1 c2 c3 c4 c5, x = .agg #[c0, c1, c2, c3, c4, c5] ∧ w.cell? ⟨B, 0, none⟩ = some (c0) ∧ w.cell? ⟨B, 1, none⟩ = some (c1) ∧ w.cell? ⟨B, 2, none⟩ = some (c2) ∧ w.cell? ⟨B, 3, none⟩ = some (c3) ∧ w.cell? ⟨B, 4, none⟩ = some (c4) ∧ w.cell? ⟨B, 5, none⟩ = some (c5)) (hok : LsOk d) (hh : HeldOk d) :
    Calls Tryz.prog 108 #[v, .func (.func 91) #[] #[.pointer (some ⟨B, 0, none⟩)]] w fun e w' => ∃ i : Int, e = .returned (.int .i64 i) ∧ (0 ≤ i ↔ ¬ scanI (lostAt d) d.votes.length = 0) ∧ Below w.heap.size w w' := by
  have HF : Hid (∀ W (m : Mrk), Below w.heap.size w W → Calls Tryz.prog 91 #[.agg #[.int .i64 m.con, .int .i64 m.val], .pointer (some ⟨B, 0, none⟩)] W fun e w' => e = .returned (.bool (awaitB d m.con && !heldIn d.held m.con)) ∧ Below W.heap.size W w') := fun W m hW => forgot1_any B x d m W (shdR.below hx hW) (by
    obtain ⟨c0, c1, c2, c3, c4, c5, e, g0, g1, g2, g3, g4, g5⟩ := hB
    exact ⟨c0, c1, c2, c3, c4, c5, e, cell_keep hW g0, cell_keep hW g1, cell_keep hW g2, cell_keep hW g3, cell_keep hW g4, cell_keep hW g5⟩) hok hh
  obtain ⟨ax, cx, rfl, hcx, hmx, hx2⟩ := hv
  unfold maxLen at hmx
  have HX : Hid (∀ i, i < d.votes.length → ∃ b o, ax = some ⟨b, o, none⟩ ∧ mrkCells w b (o + i * 2) (d.votes.getD i default)) := hx2
  have HZ : Hid (∀ k, k < d.votes.length → (awaitB d (d.votes.getD k default).con && !heldIn d.held (d.votes.getD k default).con) = false → lostAt d k = 0) := fun k hk h => lostAt_zero h (findM_own hok.ov hk)
  have HO : Hid (∀ k, k < d.votes.length → (awaitB d (d.votes.getD k default).con && !heldIn d.held (d.votes.getD k default).con) = true → scanI (lostAt d) k = 0 → ¬ scanI (lostAt d) d.votes.length = 0) := fun k hk h hs => by
    have h1 := lostAt_one h (findM_own hok.ov hk)
    rw [scanI_hit hs (by rw [h1]; omega) _ hk, h1]
    omega
  clear hx hB hok hh hx2
  generalize hn : d.votes.length = n at *
  clear hn
  have eg := enters_of Tryz.func91 (by kernel_rfl) rfl
  go_enter Tryz.func108, Tryz.ntmps108
  go_wp2
  go_loopw [8] (fun i w' => ∃ k : Nat, k ≤ n ∧ i = .int .i64 k ∧ Hid (scanI (lostAt d) k = 0) ∧ Below w.heap.size w w') (fun i _ => n - (intOf i).toNat)
  case atStart => exact ⟨0, Nat.zero_le _, rfl, rfl, Below.refl _ _⟩
  case round =>
    obtain ⟨k, hk, rfl, HS, hbl⟩ := hrel
    by_cases hlt : k < n
    · obtain ⟨bx, ox, rfl, g1⟩ := HX.out k hlt
      have h1 := HZ.out k hlt
      have h2 := HO.out k hlt
      obtain ⟨l, hl⟩ : ∃ l, l = d.votes.getD k default := ⟨_, rfl⟩
      rw [← hl] at g1 h1 h2
      have HF1 : Hid (∀ W, Below w.heap.size w W → Calls Tryz.prog 91 #[.agg #[.int .i64 l.con, .int .i64 l.val], .pointer (some ⟨B, 0, none⟩)] W fun e w' => e = .returned (.bool (awaitB d l.con && !heldIn d.held l.con)) ∧ Below W.heap.size W w') := fun W hW => HF.out W l hW
      generalize (awaitB d l.con && !heldIn d.held l.con) = bb at *
      have H1 : Hid (bb = false → lostAt d k = 0) := h1
      have H2 : Hid (bb = true → scanI (lostAt d) k = 0 → ¬ scanI (lostAt d) n = 0) := h2
      clear hl h1 h2
      obtain ⟨g2, g3⟩ := mrkCells_below hbl g1
      clear g1
      cases hbb : bb
      · have HC : Hid (scanI (lostAt d) (k + 1) = 0) := scanI_succ HS.out (H1.out hbb)
        rw [hbb] at HF1
        clear H1 H2 HS hbb
        go_wp2_with (first | (go_at_call 91; refine (HF1.out _ (by (repeat (first | exact Below.refl _ _ | assumption | refine Below.drew ?_ | refine balloc ?_ _ | refine bset ?_ (by simp; omega) _ | refine bset ?_ (by simp) _ | refine bstep ?_ (by assumption))))).mono ?_; rintro e w1 ⟨rfl, hb1⟩))
        exact ⟨⟨k + 1, by omega, by go_num, HC, by (repeat (first | exact Below.refl _ _ | assumption | refine Below.drew ?_ | refine balloc ?_ _ | refine bset ?_ (by simp; omega) _ | refine bset ?_ (by simp) _ | refine bstep ?_ (by assumption)))⟩, by simp [intOf]; omega⟩
      · have HC := H2.out hbb HS.out
        rw [hbb] at HF1
        clear H1 H2 hbb
        have HCh : Hid (¬ scanI (lostAt d) n = 0) := HC
        clear HC
        go_wp2_with (first | (go_at_call 91; refine (HF1.out _ (by (repeat (first | exact Below.refl _ _ | assumption | refine Below.drew ?_ | refine balloc ?_ _ | refine bset ?_ (by simp; omega) _ | refine bset ?_ (by simp) _ | refine bstep ?_ (by assumption))))).mono ?_; rintro e w1 ⟨rfl, hb1⟩))
        go_ret
        exact ⟨k, rfl, ⟨fun _ => HCh.out, fun _ => by omega⟩, by (repeat (first | exact Below.refl _ _ | assumption | refine Below.drew ?_ | refine balloc ?_ _ | refine bset ?_ (by simp; omega) _ | refine bset ?_ (by simp) _ | refine bstep ?_ (by assumption)))⟩
    · have hkn : k = n := by omega
      subst hkn
      go_wp2
      go_ret
      exact ⟨-1, rfl, ⟨fun h => absurd h (by omega), fun h => absurd HS.out h⟩, by (repeat (first | exact Below.refl _ _ | assumption | refine Below.drew ?_ | refine balloc ?_ _ | refine bset ?_ (by simp; omega) _ | refine bset ?_ (by simp) _ | refine bstep ?_ (by assumption)))⟩
set_option maxRecDepth 20000 in
set_option maxHeartbeats 4000000 in
theorem forgotten_any (x : Value) (d : Shd) (w : World) (hx : shdR.V w x d) (hok : LsOk d) (hh : HeldOk d) :
    Calls Tryz.prog 66 #[x] w fun e w' => e = .returned (.bool (decide (¬ scanI (lostAt d) d.votes.length = 0))) ∧ Below w.heap.size w w' := by
  have HI : Hid (∀ W v, Below w.heap.size w W → mrksR.V W v d.votes → (∃ c0 c1 c2 c3 c4 c5, x = .agg #[c0, c1, c2, c3, c4, c5] ∧ W.cell? ⟨w.heap.size, 0, none⟩ = some (c0) ∧ W.cell? ⟨w.heap.size, 1, none⟩ = some (c1) ∧ W.cell? ⟨w.heap.size, 2, none⟩ = some (c2) ∧ W.cell? ⟨w.heap.size, 3, none⟩ = some (c3) ∧ W.cell? ⟨w.heap.size, 4, none⟩ = some (c4) ∧ W.cell? ⟨w.heap.size, 5, none⟩ = some (c5)) → Calls Tryz.prog 108 #[v, .func (.func 91) #[] #[.pointer (some ⟨w.heap.size, 0, none⟩)]] W fun e w' => ∃ i : Int, e = .returned (.int .i64 i) ∧ (0 ≤ i ↔ ¬ scanI (lostAt d) d.votes.length = 0) ∧ Below W.heap.size W w') := fun W v hW hv hB => indexForg_any w.heap.size x v d W (shdR.below hx hW) hv hB hok hh
  obtain ⟨u1, u2, u3, u4, u5, rfl, h1, h2, h3, h4, h5⟩ := hx
  have HV : Hid (∀ W, Below w.heap.size w W → mrksR.V W u2 d.votes) := fun W hW => mrksR.below h2 hW
  obtain ⟨a1, c1, rfl⟩ := bals_form h1
  obtain ⟨a2, c2, rfl⟩ := mrks_form h2
  obtain ⟨a3, c3, rfl⟩ := conts_form h3
  obtain ⟨a4, c4, rfl⟩ := mrks_form h4
  obtain ⟨a5, c5, rfl⟩ := ints_form h5
  clear h1 h2 h3 h4 h5 hok hh
  obtain ⟨pz, hpz⟩ : ∃ pz : Prop, pz = ¬ scanI (lostAt d) d.votes.length = 0 := ⟨_, rfl⟩
  have e9 : decide (¬ scanI (lostAt d) d.votes.length = 0) = !decide (scanI (lostAt d) d.votes.length = 0) := by simp
  rw [e9]
  clear e9 hpz pz
  generalize d.bals.length = n1 at *
  generalize d.votes.length = n2 at *
  generalize d.held.length = n3 at *
  generalize d.done.length = n4 at *
  generalize d.appl.length = n5 at *
  generalize scanI (lostAt d) n2 = sc at *
  have hmf : ∀ (fn : Fn) (first cap : Array Value) (w : World), (Instr.makeFunc fn first cap).run Tryz.prog w = .ok (.func fn first cap) w := fun _ _ _ _ => rfl
  have HCF : Hid (∀ W, Below w.heap.size w W → W.cell? ⟨w.heap.size, 0, none⟩ = some (.int .i64 d.idx) → W.cell? ⟨w.heap.size, 1, none⟩ = some (.slice a1 n1 c1) → W.cell? ⟨w.heap.size, 2, none⟩ = some (.slice a2 n2 c2) → W.cell? ⟨w.heap.size, 3, none⟩ = some (.slice a3 n3 c3) → W.cell? ⟨w.heap.size, 4, none⟩ = some (.slice a4 n4 c4) → W.cell? ⟨w.heap.size, 5, none⟩ = some (.slice a5 n5 c5) → Calls Tryz.prog 90 #[.slice a2 n2 c2, .func (.func 91) #[] #[.pointer (some ⟨w.heap.size, 0, none⟩)]] W fun e w' => e = .returned (.bool (!decide (sc = 0))) ∧ Below W.heap.size W w') := fun W hW g0 g1 g2 g3 g4 g5 => by
    have hc := HI.out W (.slice a2 n2 c2) hW (HV.out W hW) ⟨_, _, _, _, _, _, rfl, g0, g1, g2, g3, g4, g5⟩
    clear HI HV
    go_enter Tryz.func90, Tryz.ntmps90
    go_wp2_with fail
    refine hc.mono ?_
    rintro e w1 ⟨i, rfl, hi, hb1⟩
    have HI1 : Hid (decide (0 ≤ i) = !decide (sc = 0)) := by
      show _ = _
      rw [Bool.eq_iff_iff]
      simp
      exact hi
    clear hi hc
    go_wp2
    go_ret
    exact ⟨by rw [← HI1.out]; rfl, by (repeat (first | exact Below.refl _ _ | assumption | refine Below.drew ?_ | refine balloc ?_ _ | refine bset ?_ (by simp; omega) _ | refine bset ?_ (by simp) _ | refine bstep ?_ (by assumption)))⟩
  go_enter Tryz.func66, Tryz.ntmps66
  go_wp2_with fail
  refine (HCF.out _ (by (repeat (first | exact Below.refl _ _ | assumption | refine Below.drew ?_ | refine balloc ?_ _ | refine bset ?_ (by simp; omega) _ | refine bset ?_ (by simp) _ | refine bstep ?_ (by assumption)))) (by simp [go_sem]) (by simp [go_sem]) (by simp [go_sem]) (by simp [go_sem]) (by simp [go_sem]) (by simp [go_sem])).mono ?_
  rintro e w1 ⟨rfl, hb1⟩
  go_wp2
  go_ret
  exact ⟨rfl, by (repeat (first | exact Below.refl _ _ | assumption | refine Below.drew ?_ | refine balloc ?_ _ | refine bset ?_ (by simp; omega) _ | refine bset ?_ (by simp) _ | refine bstep ?_ (by assumption)))⟩
end Go.Proofs.YtndghenlapbaaaaGreatDoor

/-
  What is in doubt, the program's.
-/
set_option linter.unusedSimpArgs false
set_option linter.unusedVariables false
namespace Go.Proofs.YtndghenlapbaaaaGreatDoor
open Go.RowKit
set_option linter.unusedSectionVars false
variable [DecidableEq Rw] [Inhabited Rw] [DecidableEq Bal] [Inhabited Bal] [DecidableEq Ledg] [Inhabited Ledg] [DecidableEq Leg] [Inhabited Leg] [DecidableEq Cont] [Inhabited Cont] [DecidableEq LedgR] [Inhabited LedgR] [DecidableEq OutcR] [Inhabited OutcR] [DecidableEq Mrk] [Inhabited Mrk] [DecidableEq Shd] [Inhabited Shd] [DecidableEq ShdR] [Inhabited ShdR]
attribute [local go_sem ↓] Go.wp_at_zero Go.wp_at_succ

set_option maxRecDepth 20000 in
set_option maxHeartbeats 8000000 in
theorem inDoubtF_any (x : Value) (d : Shd) (w : World) (hx : shdR.V w x d) (hok : LsOk d) :
    Calls Tryz.prog 65 #[x] w fun e w' => e = .returned (.int .i64 (scanI (heldAt d) d.held.length)) ∧ Below w.heap.size w w' := by
  have HAw : Hid (∀ W c, Below w.heap.size w W → Calls Tryz.prog 89 #[x, .int .i64 c] W fun e w' => e = .returned (.bool (awaitB d c)) ∧ Below W.heap.size W w') := fun W c hW => awaits_any x d c W (shdR.below hx hW) ⟨by have := hok.nv; omega, by have := hok.nd; omega⟩ hok.ov hok.od
  obtain ⟨u1, u2, u3, u4, u5, rfl, h1, h2, h3, h4, h5⟩ := hx
  have HX3 : Hid (∃ a c, u3 = .slice a d.held.length c ∧ d.held.length ≤ c ∧ c ≤ maxLen ∧ ∀ k, k < d.held.length → ∃ b o p q, a = some ⟨b, o, none⟩ ∧ w.cell? ⟨b, o + k * 2, none⟩ = some (.int .i64 (d.held.getD k default).id) ∧ w.cell? ⟨b, o + k * 2 + 1, none⟩ = some (.slice p (d.held.getD k default).legs.length q) ∧ contR.V w (.agg #[.int .i64 (d.held.getD k default).id, .slice p (d.held.getD k default).legs.length q]) (d.held.getD k default)) := conts_at h3
  obtain ⟨a1, c1, rfl⟩ := bals_form h1
  obtain ⟨a2, c2, rfl⟩ := mrks_form h2
  obtain ⟨a3, c3, rfl⟩ := conts_form h3
  obtain ⟨a4, c4, rfl⟩ := mrks_form h4
  obtain ⟨a5, c5, rfl⟩ := ints_form h5
  obtain ⟨_, _, e3, hc3, hm3, hx3⟩ := HX3.out
  simp only [Value.slice.injEq, true_and] at e3
  obtain ⟨rfl, rfl⟩ := e3
  unfold maxLen at hm3
  have HX : Hid (∀ k, k < d.held.length → ∃ b o p q, a3 = some ⟨b, o, none⟩ ∧ w.cell? ⟨b, o + k * 2, none⟩ = some (.int .i64 (d.held.getD k default).id) ∧ w.cell? ⟨b, o + k * 2 + 1, none⟩ = some (.slice p (d.held.getD k default).legs.length q) ∧ contR.V w (.agg #[.int .i64 (d.held.getD k default).id, .slice p (d.held.getD k default).legs.length q]) (d.held.getD k default)) := hx3
  have HHe : Hid (∀ k c, k < d.held.length → scanI (heldAt d) k = 0 → heldAt d k = c → c ≠ 0 → scanI (heldAt d) d.held.length = c) := fun k c hk hs h hc => by rw [scanI_hit hs (by rw [h]; exact hc) _ hk, h]
  clear h1 h2 h3 h4 h5 hok HX3 hx3
  generalize d.bals.length = n1 at *
  generalize d.votes.length = n2 at *
  generalize d.held.length = n3 at *
  generalize d.done.length = n4 at *
  generalize d.appl.length = n5 at *
  obtain ⟨Z, hZ⟩ : ∃ Z, Z = scanI (heldAt d) n3 := ⟨_, rfl⟩
  have HZ : Hid (Z = scanI (heldAt d) n3) := hZ
  rw [← hZ] at HHe ⊢
  clear hZ
  go_enter Tryz.func65, Tryz.ntmps65
  go_wp2
  go_loopw [10] (fun i w' => ∃ k : Nat, k ≤ n3 ∧ i = .int .i64 k ∧ Hid (scanI (heldAt d) k = 0) ∧ (w'.cell? ⟨w.heap.size, 0, none⟩ = some (.int .i64 d.idx) ∧ w'.cell? ⟨w.heap.size, 1, none⟩ = some (.slice a1 n1 c1) ∧ w'.cell? ⟨w.heap.size, 2, none⟩ = some (.slice a2 n2 c2) ∧ w'.cell? ⟨w.heap.size, 3, none⟩ = some (.slice a3 n3 c3) ∧ w'.cell? ⟨w.heap.size, 4, none⟩ = some (.slice a4 n4 c4) ∧ w'.cell? ⟨w.heap.size, 5, none⟩ = some (.slice a5 n5 c5)) ∧ Below w.heap.size w w') (fun i _ => n3 - (intOf i).toNat)
  case atStart => exact ⟨0, Nat.zero_le _, rfl, rfl, by simp [go_sem], by (repeat (first | exact Below.refl _ _ | assumption | refine Below.drew ?_ | refine balloc ?_ _ | refine bset ?_ (by simp; omega) _ | refine bset ?_ (by simp) _ | refine bstep ?_ (by assumption)))⟩
  case round =>
    obtain ⟨k, hk, rfl, HS, ⟨y0, y1, y2, y3, y4, y5⟩, hbl⟩ := hrel
    have zq : w.heap.size < wr.heap.size := World.block_lt_of_cell? wr _ y0
    by_cases hlt : k < n3
    · obtain ⟨bx, ox, pp, qq, rfl, g0, g1, hV⟩ := HX.out k hlt
      obtain ⟨ul, hul, hvl⟩ := hV
      simp only [Value.agg.injEq, Array.mk.injEq, List.cons.injEq, and_true, true_and] at hul
      subst hul
      have HC1 : Hid (∀ W, Below wr.heap.size wr W → Calls Tryz.prog 88 #[.agg #[.int .i64 (d.held.getD k default).id, .slice pp (d.held.getD k default).legs.length qq]] W fun e w' => e = .returned (.int .i64 (contractFault (d.held.getD k default).id (d.held.getD k default).legs)) ∧ Below W.heap.size W w') := fun W hW => implFault_any _ _ _ W (legsR.below hvl (bstep hbl hW))
      have HC2 : Hid (∀ W, Below wr.heap.size wr W → contractFault (d.held.getD k default).id (d.held.getD k default).legs = 0 → Calls Tryz.prog 71 #[.slice pp (d.held.getD k default).legs.length qq, .int .i64 d.idx] W fun e w' => ∃ v, e = .returned v ∧ w'.ownsRow W.heap.size 119 4 v (legsH d k).length (legsC (legsH d k)) ∧ Below W.heap.size W w') := fun W hW h0 => legsOn_any _ _ _ W (legsR.below hvl (bstep hbl hW)) (by have := (cf_inv h0).2.2.1; omega)
      have HC3 : Hid (∀ W, Below wr.heap.size wr W → Calls Tryz.prog 89 #[.agg #[.int .i64 d.idx, .slice a1 n1 c1, .slice a2 n2 c2, .slice (some ⟨bx, ox, none⟩) n3 c3, .slice a4 n4 c4, .slice a5 n5 c5], .int .i64 (d.held.getD k default).id] W fun e w' => e = .returned (.bool (awaitB d (d.held.getD k default).id)) ∧ Below W.heap.size W w') := fun W hW => HAw.out W _ (bstep hbl hW)
      have HE1 : Hid (¬ contractFault (d.held.getD k default).id (d.held.getD k default).legs = 0 → Z = contractFault (d.held.getD k default).id (d.held.getD k default).legs) := fun h => HHe.out k _ hlt HS.out (heldAt_code h) h
      have HE2 : Hid (contractFault (d.held.getD k default).id (d.held.getD k default).legs = 0 → ¬ (riseC d.held k = true ∧ ¬ (legsH d k).length = 0 ∧ awaitB d (d.held.getD k default).id = true) → Z = 1) := fun h h2 => HHe.out k 1 hlt HS.out (heldAt_bad h (fun h3 => h2 ⟨h3.1, h3.2.1, by unfold awaitB; rw [h3.2.2.1, h3.2.2.2]; rfl⟩)) (by omega)
      have HE3 : Hid (contractFault (d.held.getD k default).id (d.held.getD k default).legs = 0 → (riseC d.held k = true ∧ ¬ (legsH d k).length = 0 ∧ awaitB d (d.held.getD k default).id = true) → scanI (heldAt d) (k + 1) = 0) := fun h h2 => scanI_succ HS.out (heldAt_ok h (by
        have h3 := h2.2.2
        unfold awaitB at h3
        simp at h3
        exact ⟨h2.1, h2.2.1, h3.1, h3.2⟩))
      have HPre : Hid (∀ m, k = m + 1 → ∃ q, wr.cell? ⟨bx, ox + m * 2, none⟩ = some (.int .i64 q) ∧ (riseC d.held k = decide (q < (d.held.getD k default).id))) := fun m hm => by
        obtain ⟨bx', ox', _, _, he, g2, _, _⟩ := HX.out m (by omega)
        simp only [Option.some.injEq, Addr.mk.injEq, and_true] at he
        obtain ⟨rfl, rfl⟩ := he
        refine ⟨_, cell_keep hbl g2, ?_⟩
        unfold riseC
        rw [hm, Nat.add_sub_cancel, decide_eq_decide]
        constructor
        · rintro (h | h)
          · omega
          · exact h
        · exact .inr
      have HR0 : Hid (k = 0 → riseC d.held k = true) := fun h => by unfold riseC; exact decide_eq_true (.inl h)
      replace g0 := cell_keep hbl g0
      replace g1 := cell_keep hbl g1
      clear hvl HHe HS
      generalize (d.held.getD k default).legs.length = ll at *
      generalize contractFault (d.held.getD k default).id (d.held.getD k default).legs = cf at *
      generalize awaitB d (d.held.getD k default).id = aw at *
      generalize (d.held.getD k default).id = qid at *
      have zb : bx < wr.heap.size := World.block_lt_of_cell? wr _ g0
      go_wp2_with fail
      refine (HC1.out _ (by (repeat (first | exact Below.refl _ _ | assumption | refine Below.drew ?_ | refine balloc ?_ _ | refine bset ?_ (by simp; omega) _ | refine bset ?_ (by simp) _ | refine bstep ?_ (by assumption))))).mono ?_
      rintro e w3 ⟨rfl, hb3⟩
      have hB3 : Below wr.heap.size wr w3 := bstep (by (repeat (first | exact Below.refl _ _ | assumption | refine Below.drew ?_ | refine balloc ?_ _ | refine bset ?_ (by simp; omega) _ | refine bset ?_ (by simp) _ | refine bstep ?_ (by assumption)))) hb3
      have b0 : w3.cell? ⟨wr.heap.size, 0, none⟩ = some (.int .i64 qid) := cell_keep hb3 (by simp [go_sem])
      have b1 : w3.cell? ⟨wr.heap.size, 1, none⟩ = some (.slice pp ll qq) := cell_keep hb3 (by simp [go_sem])
      clear hb3 HC1
      by_cases hcf : cf = 0
      rotate_left
      · have HC := HE1.out hcf
        have hcf' : (cf != 0) = true := by simp [hcf]
        clear HE1 HE2 HE3 HC2 HC3
        go_wp2
        go_ret
        exact ⟨by rw [HC]; rfl, by (repeat (first | exact Below.refl _ _ | assumption | refine Below.drew ?_ | refine balloc ?_ _ | refine bset ?_ (by simp; omega) _ | refine bset ?_ (by simp) _ | refine bstep ?_ (by assumption)))⟩
      have HC2' : Hid (∀ W, Below wr.heap.size wr W → Calls Tryz.prog 71 #[.slice pp ll qq, .int .i64 d.idx] W fun e w' => ∃ v, e = .returned v ∧ w'.ownsRow W.heap.size 119 4 v (legsH d k).length (legsC (legsH d k)) ∧ Below W.heap.size W w') := fun W hW => HC2.out W hW hcf
      have HE2' : Hid (¬ (riseC d.held k = true ∧ ¬ (legsH d k).length = 0 ∧ aw = true) → Z = 1) := fun h => HE2.out hcf h
      have HE3' : Hid ((riseC d.held k = true ∧ ¬ (legsH d k).length = 0 ∧ aw = true) → scanI (heldAt d) (k + 1) = 0) := fun h => HE3.out hcf h
      rw [hcf]
      clear HE1 HE2 HE3 HC2 hcf
      replace g0 := cell_keep hB3 g0
      replace y0 := cell_keep hB3 y0
      replace y1 := cell_keep hB3 y1
      replace y2 := cell_keep hB3 y2
      replace y3 := cell_keep hB3 y3
      replace y4 := cell_keep hB3 y4
      replace y5 := cell_keep hB3 y5
      have hz3 := hB3.size
      generalize hll : legsH d k = lgs at *
      clear hll
      have HRS : Hid (riseC d.held k = true ∨ riseC d.held k = false) := by cases riseC d.held k <;> simp [Hid]
      cases k with
      | zero =>
        have hrs := HR0.out rfl
        rw [hrs] at HE2' HE3'
        simp only [Nat.zero_mul, Nat.add_zero] at g0 g1
        clear HPre HR0 hrs HRS
        go_wp2
        go_quiet (fail)
        obtain ⟨w4, hw4⟩ : ∃ w4, w4 = w3.drewN nq := ⟨_, rfl⟩
        have hb4 : Below w3.heap.size w3 w4 := by rw [hw4]; exact bdrewN (Below.refl _ _) _
        rw [← hw4]
        clear hw4
        replace y0 := cell_keep hb4 y0
        replace y1 := cell_keep hb4 y1
        replace y2 := cell_keep hb4 y2
        replace y3 := cell_keep hb4 y3
        replace y4 := cell_keep hb4 y4
        replace y5 := cell_keep hb4 y5
        replace b0 := cell_keep hb4 b0
        replace b1 := cell_keep hb4 b1
        have hB4 : Below wr.heap.size wr w4 := bstep hB3 hb4
        go_wp2_with fail
        refine (HC2'.out _ hB4).mono ?_
        rintro e w5 ⟨vl, rfl, ol, hb5⟩
        obtain ⟨al, cl, rfl⟩ := owns_form ol
        replace y0 := cell_keep hb5 y0
        replace y1 := cell_keep hb5 y1
        replace y2 := cell_keep hb5 y2
        replace y3 := cell_keep hb5 y3
        replace y4 := cell_keep hb5 y4
        replace y5 := cell_keep hb5 y5
        replace b0 := cell_keep hb5 b0
        have hB5 : Below wr.heap.size wr w5 := bstep hB4 hb5
        clear hb5 hb4 ol
        by_cases hl0 : lgs.length = 0
        · have hl0' : (((lgs.length : Nat) : Int) == 0) = true := by simp [hl0]
          have HC := HE2'.out (fun h => h.2.1 hl0)
          clear HE2' HE3' hl0
          generalize lgs.length = lg at *
          go_wp2
          go_ret
          exact ⟨by rw [HC]; rfl, by (repeat (first | exact Below.refl _ _ | assumption | refine Below.drew ?_ | refine balloc ?_ _ | refine bset ?_ (by simp; omega) _ | refine bset ?_ (by simp) _ | refine bstep ?_ (by assumption)))⟩
        have hl0' : (((lgs.length : Nat) : Int) == 0) = false := by simp; exact fun h => hl0 (by rw [h]; rfl)
        cases haw : aw
        · have HC := HE2'.out (fun h => by rw [haw] at h; exact absurd h.2.2 (by decide))
          rw [haw] at HC3
          clear HE2' HE3' hl0 haw
          generalize lgs.length = lg at *
          go_wp2_with (first | (go_at_call 89; refine (HC3.out _ (by (repeat (first | exact Below.refl _ _ | assumption | refine Below.drew ?_ | refine balloc ?_ _ | refine bset ?_ (by simp; omega) _ | refine bset ?_ (by simp) _ | refine bstep ?_ (by assumption))))).mono ?_; rintro e w6 ⟨rfl, hb6⟩))
          go_ret
          exact ⟨by rw [HC]; rfl, by (repeat (first | exact Below.refl _ _ | assumption | refine Below.drew ?_ | refine balloc ?_ _ | refine bset ?_ (by simp; omega) _ | refine bset ?_ (by simp) _ | refine bstep ?_ (by assumption)))⟩
        · have HC : Hid (scanI (heldAt d) (0 + 1) = 0) := HE3'.out ⟨by first | rfl | trivial, hl0, haw⟩
          rw [haw] at HC3
          clear HE2' HE3' hl0 haw
          generalize lgs.length = lg at *
          go_wp2_with fail
          refine (HC3.out _ hB5).mono ?_
          rintro e w6 ⟨rfl, hb6⟩
          replace y0 := cell_keep hb6 y0
          replace y1 := cell_keep hb6 y1
          replace y2 := cell_keep hb6 y2
          replace y3 := cell_keep hb6 y3
          replace y4 := cell_keep hb6 y4
          replace y5 := cell_keep hb6 y5
          have hB6 : Below wr.heap.size wr w6 := bstep hB5 hb6
          have hBw6 : Below w.heap.size w w6 := bstep hbl hB6
          clear hb6
          go_wp2
          exact ⟨⟨1, by omega, by go_num, HC, ⟨y0, y1, y2, y3, y4, y5⟩, hBw6⟩, by simp [intOf]; omega⟩
      | succ m =>
        obtain ⟨q, gq, hq⟩ := HPre.out m rfl
        replace gq := cell_keep hB3 gq
        clear HPre HR0 HRS
        have hw1 : IntKind.i64.wrap (((m + 1 : Nat) : Int) - 1) = (m : Int) := by rw [IntKind.wrap_i64]; omega
        have hw2 : (((m + 1 : Nat) : Int) - 1) = (m : Int) := by omega
        have hw3 : IntKind.i64.wrap (m : Int) = (m : Int) := wrapId (by omega) (by omega)
        have e1 : ((m + 1 : Nat) : Int) < n3 := by omega
        have e2 : (m : Int) < n3 := by omega
        have e3 : (0 : Int) ≤ m := by omega
        have e4 : (((m + 1 : Nat) : Int) == 0) = false := by simp; omega
        have e5 : (0 : Int) ≤ ((m + 1 : Nat) : Int) := by omega
        obtain ⟨ii, hii⟩ : ∃ ii : Nat, ii = m + 1 := ⟨_, rfl⟩
        have HII : Hid (ii = m + 1) := hii
        rw [← hii] at g0 g1 hw1 hw2 e1 e4 e5 HE2' HE3' hlt hk hq ⊢
        clear hii
        have e6 : ¬ ii = 0 := by have := HII.out; omega
        by_cases hle : q < qid
        · rw [decide_eq_true hle] at hq
          rw [hq] at HE2' HE3'
          have hle' : decide (q < qid) = true := decide_eq_true hle
          clear hq
          go_wp2
          go_quiet (fail)
          obtain ⟨w4, hw4⟩ : ∃ w4, w4 = w3.drewN nq := ⟨_, rfl⟩
          have hb4 : Below w3.heap.size w3 w4 := by rw [hw4]; exact bdrewN (Below.refl _ _) _
          rw [← hw4]
          clear hw4
          replace y0 := cell_keep hb4 y0
          replace y1 := cell_keep hb4 y1
          replace y2 := cell_keep hb4 y2
          replace y3 := cell_keep hb4 y3
          replace y4 := cell_keep hb4 y4
          replace y5 := cell_keep hb4 y5
          replace b0 := cell_keep hb4 b0
          replace b1 := cell_keep hb4 b1
          have hB4 : Below wr.heap.size wr w4 := bstep hB3 hb4
          go_wp2_with fail
          refine (HC2'.out _ hB4).mono ?_
          rintro e w5 ⟨vl, rfl, ol, hb5⟩
          obtain ⟨al, cl, rfl⟩ := owns_form ol
          replace y0 := cell_keep hb5 y0
          replace y1 := cell_keep hb5 y1
          replace y2 := cell_keep hb5 y2
          replace y3 := cell_keep hb5 y3
          replace y4 := cell_keep hb5 y4
          replace y5 := cell_keep hb5 y5
          replace b0 := cell_keep hb5 b0
          have hB5 : Below wr.heap.size wr w5 := bstep hB4 hb5
          clear hb5 hb4 ol
          by_cases hl0 : lgs.length = 0
          · have hl0' : (((lgs.length : Nat) : Int) == 0) = true := by simp [hl0]
            have HC := HE2'.out (fun h => h.2.1 hl0)
            clear HE2' HE3' hl0
            generalize lgs.length = lg at *
            go_wp2
            go_ret
            exact ⟨by rw [HC]; rfl, by (repeat (first | exact Below.refl _ _ | assumption | refine Below.drew ?_ | refine balloc ?_ _ | refine bset ?_ (by simp; omega) _ | refine bset ?_ (by simp) _ | refine bstep ?_ (by assumption)))⟩
          have hl0' : (((lgs.length : Nat) : Int) == 0) = false := by simp; exact fun h => hl0 (by rw [h]; rfl)
          cases haw : aw
          · have HC := HE2'.out (fun h => by rw [haw] at h; exact absurd h.2.2 (by decide))
            rw [haw] at HC3
            clear HE2' HE3' hl0 haw
            generalize lgs.length = lg at *
            go_wp2_with (first | (go_at_call 89; refine (HC3.out _ (by (repeat (first | exact Below.refl _ _ | assumption | refine Below.drew ?_ | refine balloc ?_ _ | refine bset ?_ (by simp; omega) _ | refine bset ?_ (by simp) _ | refine bstep ?_ (by assumption))))).mono ?_; rintro e w6 ⟨rfl, hb6⟩))
            go_ret
            exact ⟨by rw [HC]; rfl, by (repeat (first | exact Below.refl _ _ | assumption | refine Below.drew ?_ | refine balloc ?_ _ | refine bset ?_ (by simp; omega) _ | refine bset ?_ (by simp) _ | refine bstep ?_ (by assumption)))⟩
          · have HC : Hid (scanI (heldAt d) (ii + 1) = 0) := HE3'.out ⟨by first | rfl | trivial, hl0, haw⟩
            rw [haw] at HC3
            clear HE2' HE3' hl0 haw
            generalize lgs.length = lg at *
            go_wp2_with fail
            refine (HC3.out _ hB5).mono ?_
            rintro e w6 ⟨rfl, hb6⟩
            replace y0 := cell_keep hb6 y0
            replace y1 := cell_keep hb6 y1
            replace y2 := cell_keep hb6 y2
            replace y3 := cell_keep hb6 y3
            replace y4 := cell_keep hb6 y4
            replace y5 := cell_keep hb6 y5
            have hB6 : Below wr.heap.size wr w6 := bstep hB5 hb6
            have hBw6 : Below w.heap.size w w6 := bstep hbl hB6
            clear hb6
            go_wp2
            exact ⟨⟨ii + 1, by omega, by go_num, HC, ⟨y0, y1, y2, y3, y4, y5⟩, hBw6⟩, by simp [intOf]; omega⟩
        · rw [decide_eq_false hle] at hq
          rw [hq] at HE2' HE3'
          have HC := HE2'.out (fun h => by exact absurd h.1 (by decide))
          have hle' : decide (q < qid) = false := decide_eq_false hle
          clear hq HE2' HE3'
          go_wp2
          go_quiet (fail)
          go_wp2
          go_ret
          exact ⟨by rw [HC]; rfl, bdrewN (by (repeat (first | exact Below.refl _ _ | assumption | refine Below.drew ?_ | refine balloc ?_ _ | refine bset ?_ (by simp; omega) _ | refine bset ?_ (by simp) _ | refine bstep ?_ (by assumption)))) _⟩
    · have hkn : k = n3 := by omega
      subst hkn
      have HC : Hid (Z = 0) := by show _ = _; rw [HZ.out]; exact HS.out
      go_wp2
      go_ret
      exact ⟨by rw [HC.out]; rfl, by (repeat (first | exact Below.refl _ _ | assumption | refine Below.drew ?_ | refine balloc ?_ _ | refine bset ?_ (by simp; omega) _ | refine bset ?_ (by simp) _ | refine bstep ?_ (by assumption)))⟩
end Go.Proofs.YtndghenlapbaaaaGreatDoor

/-
  Numbers of a slice, gathered and put in order, the program's.
-/
namespace Go.Proofs.YtndghenlapbaaaaGreatDoor
open Go.RowKit Go.Shelf
set_option linter.unusedSectionVars false
variable [DecidableEq Leg] [Inhabited Leg] [DecidableEq Rw] [Inhabited Rw] [DecidableEq Bal] [Inhabited Bal] [DecidableEq Ledg] [Inhabited Ledg] [DecidableEq Cont] [Inhabited Cont] [DecidableEq LedgR] [Inhabited LedgR] [DecidableEq OutcR] [Inhabited OutcR] [DecidableEq Mrk] [Inhabited Mrk] [DecidableEq Shd] [Inhabited Shd] [DecidableEq ShdR] [Inhabited ShdR]
set_option linter.unusedVariables false
set_option linter.unusedSimpArgs false
attribute [local go_sem] Oper.semAt_some

def QclC (C : List Value) (k T L0 : Nat) (w W : World) (Y : Nat → Prop) (v : Value) : Prop :=
  W.cell? ⟨T, 0, none⟩ = some v ∧ W.ownsRow L0 2 1 v k C ∧ (∀ b, v.ownBlock = some b → ¬ Y b) ∧ (∀ b, b ≤ T → ¬ Y b) ∧ L0 ≤ W.heap.size ∧ W.frozen? ⟨T, 0, none⟩ = false ∧ Below T w W
theorem QclC_mod {C : List Value} {k T L0 : Nat} {w W W' : World} {Y Y' F : Nat → Prop} {v : Value} (hTL : T < L0) (h : QclC C k T L0 w W Y v) (hm : Mod F W W') (hF : ∀ b, b ≤ T → ¬ F b) (hFv : ∀ b, v.ownBlock = some b → ¬ F b)
    (hY : ∀ b, b ≤ T → ¬ Y' b) (hYv : ∀ b, v.ownBlock = some b → ¬ Y' b) : QclC C k T L0 w W' Y' v := by
  obtain ⟨h1, h2, h3, h4, h5, h9, h10⟩ := h
  have hs := hm.size
  refine ⟨hm.cell h1 (hF _ (Nat.le_refl _)), hm.owns h2 hFv, hYv, hY, by omega, (hm.frz (a := ⟨T, 0, none⟩) (by dsimp only; omega) (hF _ (by dsimp only; omega))).trans h9, ?_⟩
  exact ⟨hm.os.trans h10.os, hm.tape.trans h10.tape, hm.output.trans h10.output, Nat.le_trans h10.size hs, fun b hb => (hm.block b (by omega) (hF b (by omega))).trans (h10.block b hb)⟩
def QclI (T L0 : Nat) (w : World) (pre : List Int) (W : World) (Y : Nat → Prop) : Prop := ∃ v, QclC (intsC pre) pre.length T L0 w W Y v
theorem QclI_stb {T L0 : Nat} {w : World} (hTL : T < L0) : Stb (QclI T L0 w) := by
  rintro pre W W' Y Y' ⟨v, h⟩ hm hYY hYn
  have h' := h
  obtain ⟨h1, h2, h3, h4, h5, h9, h10⟩ := h'
  refine ⟨v, QclC_mod hTL h hm h4 h3 (fun b hb h2 => ?_) (fun b hb hy => ?_)⟩
  · rcases (hYn b h2).1 with h3 | h3
    · exact h4 b hb h3
    · omega
  · rcases (hYn b hy).1 with h | h
    · exact h3 b hb h
    · have := (h2.lt b hb).2
      omega
theorem QclC_mid {C : List Value} {k T L0 : Nat} {w W w5 : World} {Y : Nat → Prop} {v : Value} {o : Obj} (hTL : T < L0) (h : QclC C k T L0 w W Y v) (hg : (W.alloc o).grownBy w5 v.ownBlock) :
    w5.cell? ⟨T, 0, none⟩ = some v ∧ w5.frozen? ⟨T, 0, none⟩ = false ∧ Mod (fun b => v.ownBlock = some b) W w5 := by
  obtain ⟨h1, h2, h3, h4, h5, h9, h10⟩ := h
  have hm : Mod (fun b => v.ownBlock = some b) W w5 := (mod_alloc _ W o).trans (Mod.of_grown hg)
  have hn : ¬ v.ownBlock = some T := fun e => by have := (h2.lt T e).1; omega
  exact ⟨hm.cell h1 hn, (hm.frz (a := ⟨T, 0, none⟩) (by dsimp only; omega) hn).trans h9, hm⟩
theorem QclC_app {C news : List Value} {k m T L0 : Nat} {w W w5 : World} {Y : Nat → Prop} {v v' : Value} {o : Obj} (hTL : T < L0) (h : QclC C k T L0 w W Y v) (hg : (W.alloc o).grownBy w5 v.ownBlock)
    (ho : w5.ownsRow L0 2 1 v' (k + m) (C ++ news)) (hv : v'.ownBlock = v.ownBlock ∨ v'.ownBlock = some (W.alloc o).heap.size) (hYa : ∀ b, Y b → b < W.heap.size) :
    QclC (C ++ news) (k + m) T L0 w (w5.setCell ⟨T, 0, none⟩ v') Y v' ∧ Mod (fun b => b = T ∨ v.ownBlock = some b) W (w5.setCell ⟨T, 0, none⟩ v') := by
  obtain ⟨c1, c2, hm⟩ := QclC_mid hTL h hg
  obtain ⟨h1, h2, h3, h4, h5, h9, h10⟩ := h
  have hset : Mod (fun b => b = T) w5 (w5.setCell ⟨T, 0, none⟩ v') := Mod.of_set w5 ⟨T, 0, none⟩ v'
  have hM : Mod (fun b => b = T ∨ v.ownBlock = some b) W (w5.setCell ⟨T, 0, none⟩ v') := (hm.mono (fun b h => .inr h)).trans (hset.mono (fun b h => .inl h))
  have hlow : ∀ b, b < T → ¬ (b = T ∨ v.ownBlock = some b) := by
    rintro b hb (h | h)
    · omega
    · have := (h2.lt b h).1
      omega
  have hs := hM.size
  refine ⟨⟨set_same c1, owns_setCell ho (by dsimp only; exact hTL) _, fun b hb hy => ?_, h4, by omega, by rw [World.frozen?_setCell]; exact c2,
    ⟨hM.os.trans h10.os, hM.tape.trans h10.tape, hM.output.trans h10.output, Nat.le_trans h10.size hs, fun b hb => (hM.block b (by omega) (hlow b (by omega))).trans (h10.block b hb)⟩⟩, hM⟩
  rcases hv with hv | hv
  · rw [hv] at hb
    exact h3 b hb hy
  · rw [hv] at hb
    cases hb
    have := hYa _ hy
    simp at this
    omega
def NoQ (c : Code) (pre : List Int) (W : World) (Y : Nat → Prop) : Prop := False
theorem NoQ_stb (c : Code) : Stb (NoQ c) := fun _ _ _ _ _ h _ _ _ => h
set_option maxRecDepth 100000 in
set_option maxHeartbeats 4000000 in
theorem appendSeqQ_any (gf : Nat) (lb : Array Value) (Ok Dn : List Int → Prop) (R : Nat → Prop) (w : World) (eg : ∀ args w, (callFunc gf args).run Tryz.prog w = .ok (.enter gf args) w) (hseq : Seqy Tryz.prog gf lb (Value.int .i64) Ok Dn R w) (hR : ∀ b, R b → b < w.heap.size) (hlen : ∀ ys, Ok ys → ys.length ≤ 200) :
    Calls Tryz.prog 110 #[.slice none 0 0, .func (.func gf) #[] lb] w fun e w' => ∃ v xs, e = .returned v ∧ Dn xs ∧ w'.ownsRow w.heap.size 2 1 v xs.length (intsC xs) ∧ Below w.heap.size w w' := by
  obtain ⟨i0, hi, hz0, hz1, hz2⟩ := info_parts infoInt
  refine (callsIn_wide (n := 0)).1 ?_
  refine callsIn_of_wp_marks Tryz.func110 rfl trivial ?_ rfl
  simp only [Tryz.ntmps110, List.size_toArray, List.length_cons, List.length_nil, Nat.reduceAdd, Nat.reduceSub, Array.replicate_succ, Array.replicate_zero, List.push_toArray, List.append_toArray, List.nil_append, List.cons_append]
  gi_wp2
  have acc : QclC (intsC []) 0 w.heap.size (w.heap.size + 1) w (w.alloc (.cells #[.slice none 0 0] 25)) (fun _ => False) (.slice none 0 0) :=
    ⟨by simp [go_sem], World.ownsRow_nil _ _ _ _, fun _ _ h => h, fun _ _ h => h, by simp, by simp [go_sem], by (repeat (first | exact Below.refl _ _ | assumption | refine Below.drew ?_ | refine balloc ?_ _ | refine bset ?_ (by simp; omega) _ | refine bset ?_ (by simp) _ | refine bstep ?_ (by assumption)))⟩
  have hseq2 := seqy_mod hseq (mod_alloc (fun k => ¬ R k) w (.cells #[.slice none 0 0] 25))
  have hRa : ∀ b, R b → b < (w.alloc (.cells #[.slice none 0 0] 25)).heap.size := fun b h => by have := hR b h; simp; omega
  have HR : Hid (∀ b, R b → b < w.heap.size) := hR
  have HLE : Hid (∀ ys, Ok ys → ys.length ≤ 200) := hlen
  have hsz : (w.alloc (.cells #[.slice none 0 0] 25)).heap.size = w.heap.size + 1 := by simp
  have HSZ : Hid ((w.alloc (.cells #[.slice none 0 0] 25)).heap.size = w.heap.size + 1) := hsz
  clear hsz hR hseq
  generalize w.alloc (.cells #[.slice none 0 0] 25) = W0 at *
  obtain ⟨T, hTT⟩ : ∃ T, w.heap.size = T := ⟨_, rfl⟩
  have HTT : Hid (w.heap.size = T) := hTT
  rw [hTT] at acc HR HSZ ⊢
  clear hTT
  obtain ⟨L0, hL0⟩ : ∃ L, T + 1 = L := ⟨_, rfl⟩
  rw [hL0] at acc HSZ
  have hTL : T < L0 := by omega
  refine wp_rangeY (gf := gf) rfl eg hseq2 hRa (QclI T L0 w) NoQ (QclI_stb hTL) NoQ_stb (fun _ => False) (fun _ h => h.elim) ⟨_, acc⟩
    (fun x a' _ _ => a' = { tmps := #[.slice none 0 0, .func (.func gf) #[] lb, .pointer (some ⟨T, 0, none⟩), undef, .slice none 0 0, .int .i64 x, .func (.func gf) #[] lb, .int .i64 x, undef, undef, undef, undef, undef], defers := [] })
    (fun x a' _ _ _ _ _ h _ _ _ => h) ?assign ?body ?done ?stop
  case assign =>
    intro l2 pre x W3 Y K hI hYl hYa hK
    gi_wp2
    exact hK _ _ (Mod.refl _ _) rfl
  case body =>
    rintro l2 pre x a' W3 Y hYl hYa ⟨vv, ha⟩ rfl hpre
    have hle : pre.length ≤ 200 := by have := HLE.out _ hpre; rw [List.length_append] at this; omega
    have HP : Hid ((pre ++ [x]).length = pre.length + 1 ∧ intsC (pre ++ [x]) = intsC pre ++ [.int .i64 x]) := ⟨by simp, by simp [intsC]⟩
    have ha' := ha
    obtain ⟨a1, a2, a3, a4, a5, a9, a10⟩ := ha
    obtain ⟨ys, hys⟩ : ∃ ys, intsC pre = ys := ⟨_, rfl⟩
    obtain ⟨m, hm⟩ : ∃ m, pre.length = m := ⟨_, rfl⟩
    rw [hys, hm] at a2 HP ha'
    rw [hm] at hle
    clear hys hm
    obtain ⟨av, cv, rfl⟩ := owns_form a2
    have hzT := World.block_lt_of_cell? _ _ a1
    dsimp only at hzT
    gi_wp2_with (gi_at_builtin; refine wpListIn_append_own_at _ rfl _ _ 25 rfl L0 2 i0 _ 1 8 Tryz.underlying25 hi hz0 hz1 hz2 rfl (by decide) _ _ _ rfl (a2.alloc _) ⟨W3.heap.size, 0, none⟩ 1 1 [.int .i64 x] rfl rfl ?c1 ?c2 ?c3 ?c4 ?c5 ?_)
    case c1 =>
      intro j u hj
      match j, hj with
      | 0, hj => simp at hj; subst hj; simp [Addr.add, go_sem]
      | j + 1, hj => simp at hj
    case c2 =>
      intro u hu
      rw [List.mem_singleton] at hu
      rw [hu]
      rfl
    case c3 => unfold maxLen; omega
    case c4 => omega
    case c5 => simp; omega
    intro v' w5 hown' hgrow _ hown
    obtain ⟨g', cap', rfl⟩ := ownsRow_succ hown'
    obtain ⟨b1, b9, _⟩ := QclC_mid hTL ha' hgrow
    obtain ⟨hnew, hM⟩ := QclC_app hTL ha' hgrow hown' (by rw [World.size_alloc]; exact hown) hYa
    gi_wp2
    refine ⟨hM.mono (fun b h => ?_), .slice (some ⟨g', 0, none⟩) (m + 1) cap', ?_⟩
    · rcases h with rfl | h
      · rintro (h2 | h2)
        · have := HR.out _ h2
          omega
        · exact a4 _ (Nat.le_refl _) h2
      · have := (a2.lt b h).1
        rintro (h2 | h2)
        · have := HR.out _ h2
          omega
        · exact a3 b h h2
    · rw [HP.out.1, HP.out.2]
      exact hnew
  case done =>
    rintro D W3 Y hD hYD xs hDn ⟨vv, ha⟩ hdef
    obtain ⟨a1, a2, a3, a4, a5, a9, a10⟩ := ha
    obtain ⟨av, cv, rfl⟩ := owns_form a2
    have hsD := HSZ.out
    gi_wp2
    refine ⟨by simp, .inl ⟨_, _, rfl, run_takeDeferred hdef, ?_⟩⟩
    refine ⟨.slice av xs.length cv, by simp [results, Tryz.results110, go_sem], ?_⟩
    have mp : Mod (fun b => b = D) W3 (W3.putObj D (.deferred none)) := mod_put _ _ _
    have hTT := HTT.out
    rw [hTT]
    refine ⟨_, xs, rfl, hDn, owns_base (mp.owns a2 (fun b hb e => a3 b hb (by rw [e]; exact hYD))) (by omega), ?_⟩
    exact ⟨mp.os.trans a10.os, mp.tape.trans a10.tape, mp.output.trans a10.output, Nat.le_trans a10.size mp.size, fun b hb => (mp.block b (by have := a10.size; omega) (by omega)).trans (a10.block b hb)⟩
  case stop =>
    rintro D c pre W3 Y hD hYD hpre h hdef
    exact h.elim
set_option maxHeartbeats 1000000 in
theorem collectQ_any (gf : Nat) (lb : Array Value) (Ok Dn : List Int → Prop) (R : Nat → Prop) (w : World) (eg : ∀ args w, (callFunc gf args).run Tryz.prog w = .ok (.enter gf args) w) (hseq : Seqy Tryz.prog gf lb (Value.int .i64) Ok Dn R w) (hR : ∀ b, R b → b < w.heap.size) (hlen : ∀ ys, Ok ys → ys.length ≤ 200) :
    Calls Tryz.prog 93 #[.func (.func gf) #[] lb] w fun e w' => ∃ v xs, e = .returned v ∧ Dn xs ∧ w'.ownsRow w.heap.size 2 1 v xs.length (intsC xs) ∧ Below w.heap.size w w' := by
  have hc := appendSeqQ_any gf lb Ok Dn R w eg hseq hR hlen
  clear eg hseq
  go_enter Tryz.func93, Tryz.ntmps93
  go_wp2_with fail
  refine hc.mono ?_
  rintro e w1 ⟨v, xs, rfl, hDn, ho, hb⟩
  obtain ⟨av, cv, rfl⟩ := owns_form ho
  clear hc
  go_wp2
  go_ret
  exact ⟨_, xs, rfl, hDn, ho, hb⟩
set_option maxRecDepth 100000 in
set_option maxHeartbeats 2000000 in
theorem valuesQ_seq (Bs : Nat) (v : Value) (xs : List Int) (w : World) (hB : w.cell? ⟨Bs, 0, none⟩ = some v) (hT : IntsV w v xs) :
    Seqy Tryz.prog 95 #[.pointer (some ⟨Bs, 0, none⟩)] (Value.int .i64) (fun ys => ys <+: xs) (fun ys => ys = xs) (fun b => b < w.heap.size) w := by
  intro l J Jx W X hm hXa hJ hJx hY h0
  have hBl : Bs < w.heap.size := World.block_lt_of_cell? w _ hB
  have hBW := hm.cell hB (fun h => h hBl)
  obtain ⟨a, cap, rfl, hc1, hc2, hrow0⟩ := hT
  have hrow : ∀ i, i < xs.length → ∃ b o, a = some ⟨b, o, none⟩ ∧ b < w.heap.size ∧ W.cell? ⟨b, o + i, none⟩ = some (.int .i64 (xs.getD i 0)) := fun i hi => by
    obtain ⟨b, o, e, hc⟩ := hrow0 i hi
    have hl : b < w.heap.size := World.block_lt_of_cell? w _ hc
    exact ⟨b, o, e, hl, hm.cell hc (fun h => h hl)⟩
  clear hB hrow0
  unfold maxLen at hc2
  have HP : Hid (∀ k, k < xs.length → xs.take k ++ [xs.getD k 0] = xs.take (k + 1)) := fun k hk => by rw [List.take_add_one, List.getElem?_eq_getElem hk]; simp [List.getD, hk]
  have HA : Hid (∀ k, xs.take k <+: xs) := fun k => List.take_prefix _ _
  have HE : Hid (xs.take xs.length = xs) := List.take_length
  generalize hN : xs.length = n at *
  have HN : Hid (xs.length = n) := hN
  clear hN
  refine callsIn_of_wp Tryz.func95 rfl trivial ?_ rfl
  simp only [Tryz.ntmps95, List.size_toArray, List.length_cons, List.length_nil, Nat.reduceAdd, Nat.reduceSub, Array.replicate_succ, Array.replicate_zero, List.push_toArray, List.append_toArray, List.nil_append, List.cons_append]
  gi_wp2
  gi_loopw [7] (fun i wr => ∃ k : Nat, k ≤ n ∧ i = .int .i64 k ∧ Hid (J (xs.take k) wr X) ∧ Hid (∀ b, X b → b < wr.heap.size) ∧ Mod (fun b => ¬ b < w.heap.size) W wr) (fun i _ => n - (intOf i).toNat)
  case atStart => exact ⟨0, Nat.zero_le _, rfl, (show J [] W X from h0), hXa, Mod.refl _ _⟩
  case round =>
    obtain ⟨k, hk, rfl, HJ, HXa, hmr⟩ := hrel
    by_cases hlt : k < n
    · obtain ⟨b, o, rfl, hRb, hc⟩ := hrow k hlt
      obtain ⟨q, hq⟩ : ∃ q, q = xs.getD k 0 := ⟨_, rfl⟩
      have hP := HP.out k hlt
      rw [← hq] at hc hP
      have HPk : Hid (xs.take k ++ [q] = xs.take (k + 1)) := hP
      replace hc := hmr.cell hc (fun h => h hRb)
      obtain ⟨fn, tmps, assign, body, hy, hR2⟩ := hY _ q _ X HJ.out (fun _ h => h) HXa.out (by rw [hP]; exact HA.out _)
      clear hP hq hrow
      gi_wp2
      refine ⟨rfl, hR2.mono ?_⟩
      rintro e W3 (⟨rfl, hJ3, hk3⟩ | ⟨rfl, hJx3, hk3⟩)
      · gi_wp2
        go_roundw
        case rel =>
          have hs := hk3.size
          refine ⟨k + 1, by omega, by simp, ?_, fun b h => ?_, hmr.trans (hk3.mono (fun b h hr => h (.inl hr)))⟩
          · rw [Hid, ← HPk.out]
            exact hJ3
          · have := HXa.out b h
            omega
        case measure => simp [intOf]; omega
      · gi_wp2
        refine bodyPost_ret (results_none rfl _ _ _) rfl ?_
        exact ⟨⟨_, rfl⟩, X, fun _ h => h, .inr ⟨_, by rw [HPk.out]; exact HA.out _, hJx3⟩⟩
    · obtain rfl : k = n := by omega
      gi_wp2
      go_end0
      refine ⟨⟨_, rfl⟩, X, fun _ h => h, .inl ⟨_, rfl, ?_⟩⟩
      have hj := HJ.out
      rw [HE.out] at hj
      exact hj
set_option maxHeartbeats 1000000 in
theorem valuesQ_any (a : Option Addr) (n c : Nat) (w : World) : Calls Tryz.prog 69 #[.slice a n c] w fun e w' => e = .returned (.func (.func 95) #[] #[.pointer (some ⟨w.heap.size, 0, none⟩)]) ∧ w' = w.alloc (.cells #[.slice a n c] 25) := by
  have hmf : ∀ (fn : Fn) (first cap : Array Value) (w : World), (Instr.makeFunc fn first cap).run Tryz.prog w = .ok (.func fn first cap) w := fun _ _ _ _ => rfl
  go_enter Tryz.func69, Tryz.ntmps69
  go_wp2
  go_ret
  exact ⟨rfl, rfl⟩
end Go.Proofs.YtndghenlapbaaaaGreatDoor

/-
  Numbers compared; contracts that are done, the program's.
-/
set_option linter.unusedSimpArgs false
set_option linter.unusedVariables false
namespace Go.Proofs.YtndghenlapbaaaaGreatDoor
open Go.RowKit
set_option linter.unusedSectionVars false
variable [DecidableEq Rw] [Inhabited Rw] [DecidableEq Bal] [Inhabited Bal] [DecidableEq Ledg] [Inhabited Ledg] [DecidableEq Leg] [Inhabited Leg] [DecidableEq Cont] [Inhabited Cont] [DecidableEq LedgR] [Inhabited LedgR] [DecidableEq OutcR] [Inhabited OutcR] [DecidableEq Mrk] [Inhabited Mrk] [DecidableEq Shd] [Inhabited Shd] [DecidableEq ShdR] [Inhabited ShdR]
attribute [local go_sem ↓] Go.wp_at_zero Go.wp_at_succ

set_option maxHeartbeats 2000000 in
theorem equalI_any (x y : Value) (xs ys : List Int) (w : World) (hx : IntsV w x xs) (hy : IntsV w y ys) :
    Calls Tryz.prog 67 #[x, y] w fun e w' => e = .returned (.bool (decide (xs = ys))) ∧ Below w.heap.size w w' := by
  obtain ⟨ax, cx, rfl, hcx, hmx, hx⟩ := hx
  obtain ⟨ay, cy, rfl, hcy, hmy, hy⟩ := hy
  unfold maxLen at hmx hmy
  by_cases hl : xs.length = ys.length
  rotate_left
  · have e : decide (xs = ys) = false := decide_eq_false (fun h => hl (by rw [h]))
    rw [e]
    have hl' : ((xs.length : Int) != (ys.length : Int)) = true := by simp; omega
    clear hx hy
    go_enter Tryz.func67, Tryz.ntmps67
    go_wp2
    go_ret
    exact ⟨rfl, by (repeat (first | exact Below.refl _ _ | assumption | refine Below.drew ?_ | refine balloc ?_ _ | refine bset ?_ (by simp; omega) _ | refine bset ?_ (by simp) _ | refine bstep ?_ (by assumption)))⟩
  have HN : Hid (∀ k, k < xs.length → ¬ xs.getD k 0 = ys.getD k 0 → decide (xs = ys) = false) := fun k hk h => decide_eq_false (fun e => h (by rw [e]))
  have HE : Hid ((∀ k, k < xs.length → xs.getD k 0 = ys.getD k 0) → decide (xs = ys) = true) := fun h => decide_eq_true (ints_eq_of hl.symm h)
  rw [← hl] at hcy hy ⊢
  clear hl
  generalize hn' : xs.length = n at *
  clear hn'
  go_enter Tryz.func67, Tryz.ntmps67
  go_wp2
  go_loopw [13] (fun i w' => ∃ k : Nat, k ≤ n ∧ i = .int .i64 k ∧ Hid (∀ j, j < k → xs.getD j 0 = ys.getD j 0) ∧ Below w.heap.size w w') (fun i _ => n - (intOf i).toNat)
  case atStart => exact ⟨0, Nat.zero_le _, rfl, fun j hj => absurd hj (Nat.not_lt_zero _), Below.refl _ _⟩
  case round =>
    obtain ⟨k, hk, rfl, HS, hbl⟩ := hrel
    by_cases hlt : k < n
    · obtain ⟨bx, ox, rfl, g1⟩ := hx k hlt
      obtain ⟨by_, oy, rfl, g2⟩ := hy k hlt
      replace g1 := cell_keep hbl g1
      replace g2 := cell_keep hbl g2
      have h1 := HN.out k hlt
      have H2 : Hid (xs.getD k 0 = ys.getD k 0 → ∀ j, j < k + 1 → xs.getD j 0 = ys.getD j 0) := fun h j hj => by
        by_cases e : j = k
        · rw [e]; exact h
        · exact HS.out j (by omega)
      generalize xs.getD k 0 = q at *
      generalize ys.getD k 0 = q' at *
      have H1 : Hid (¬ q = q' → decide (xs = ys) = false) := h1
      clear h1 hx hy
      have k1 : (k : Int) < n := by omega
      have k2 : (0 : Int) ≤ k := by omega
      by_cases he : q = q'
      · have HC := H2.out he
        have HC' : Hid (∀ j, j < k + 1 → xs.getD j 0 = ys.getD j 0) := HC
        have he' : (q != q') = false := by simp [he]
        clear HC H1 H2 he
        go_wp2
        go_quiet (fail)
        go_wp2
        exact ⟨⟨k + 1, by omega, by go_num, HC', bdrewN hbl _⟩, by simp [intOf]; omega⟩
      · have HC := H1.out he
        have he' : (q != q') = true := by simp [he]
        clear H1 H2 he
        go_wp2
        go_quiet (fail)
        go_wp2
        go_ret
        exact ⟨by rw [HC]; rfl, bdrewN hbl _⟩
    · have hkn : k = n := by omega
      subst hkn
      have HC := HE.out HS.out
      go_wp2
      go_ret
      exact ⟨by rw [HC]; rfl, by (repeat (first | exact Below.refl _ _ | assumption | refine Below.drew ?_ | refine balloc ?_ _ | refine bset ?_ (by simp; omega) _ | refine bset ?_ (by simp) _ | refine bstep ?_ (by assumption)))⟩
set_option maxRecDepth 20000 in
set_option maxHeartbeats 4000000 in
theorem contractsDone_any (x : Value) (d : Shd) (w : World) (hx : shdR.V w x d) (hn : d.done.length ≤ 1000) :
    Calls Tryz.prog 70 #[x] w fun e w' => ∃ v, e = .returned v ∧ w'.ownsRow w.heap.size 2 1 v (doneL d.done).length (intsC (doneL d.done)) ∧ Below w.heap.size w w' := by
  obtain ⟨u1, u2, u3, u4, u5, rfl, h1, h2, h3, h4, h5⟩ := hx
  obtain ⟨a1, c1, rfl⟩ := bals_form h1
  obtain ⟨a2, c2, rfl⟩ := mrks_form h2
  obtain ⟨a3, c3, rfl⟩ := conts_form h3
  obtain ⟨a4, c4, rfl, hc4, hm4, hx4⟩ := h4
  obtain ⟨a5, c5, rfl⟩ := ints_form h5
  unfold maxLen at hm4
  have HX : Hid (∀ i, i < d.done.length → ∃ b o, a4 = some ⟨b, o, none⟩ ∧ mrkCells w b (o + i * 2) (d.done.getD i default)) := hx4
  have HDs : Hid (∀ k, k < d.done.length → doneL (d.done.take (k + 1)) = if (d.done.getD k default).val = 1 then doneL (d.done.take k) ++ [(d.done.getD k default).con] else doneL (d.done.take k)) := fun k hk => doneL_snoc hk
  have HDe : Hid (doneL (d.done.take d.done.length) = doneL d.done) := by show _ = _; rw [List.take_length]
  have HDl : Hid (∀ k, (doneL (d.done.take k)).length ≤ k) := fun k => Nat.le_trans (doneL_le _) (by rw [List.length_take]; omega)
  clear h1 h2 h3 h5 hx4
  generalize d.bals.length = n1 at *
  generalize d.votes.length = n2 at *
  generalize d.held.length = n3 at *
  generalize d.done.length = n4 at *
  generalize d.appl.length = n5 at *
  obtain ⟨i0, hi0, hz0, hzz1, hzz2⟩ := info_parts infoInt
  have HI0 : Hid (Tryz.prog.info? 2 = some i0 ∧ i0.zero = some (.int .i64 0) ∧ i0.size = 1 ∧ i0.bytes = 8) := ⟨hi0, hz0, hzz1, hzz2⟩
  clear hi0 hz0 hzz1 hzz2
  go_enter Tryz.func70, Tryz.ntmps70
  go_wp2
  go_loopw [3, 9] (fun s i w' => ∃ (k m : Nat) (p : Option Addr) (q : Nat), k ≤ n4 ∧ s = .slice p m q ∧ i = .int .i64 k ∧ Hid ((doneL (d.done.take k)).length = m) ∧ Hid (w'.ownsRow w.heap.size 2 1 (.slice p m q) m (intsC (doneL (d.done.take k)))) ∧ Below w.heap.size w w') (fun s i _ => n4 - (intOf i).toNat)
  case atStart => exact ⟨0, 0, none, 0, Nat.zero_le _, rfl, rfl, by show (doneL (d.done.take 0)).length = 0; simp [doneL], by show World.ownsRow _ _ _ _ _ _ _; exact World.ownsRow_nil _ _ _ _, by (repeat (first | exact Below.refl _ _ | assumption | refine Below.drew ?_ | refine balloc ?_ _ | refine bset ?_ (by simp; omega) _ | refine bset ?_ (by simp) _ | refine bstep ?_ (by assumption)))⟩
  case round =>
    obtain ⟨k, m, p, q, hk, rfl, rfl, HM, HO, hbl⟩ := hrel
    by_cases hlt : k < n4
    · obtain ⟨bx, ox, rfl, g1⟩ := HX.out k hlt
      have h1 := HDs.out k hlt
      have hl := HDl.out k
      obtain ⟨l, hl'⟩ : ∃ l, l = d.done.getD k default := ⟨_, rfl⟩
      rw [← hl'] at g1 h1
      have H1 : Hid (doneL (d.done.take (k + 1)) = if l.val = 1 then doneL (d.done.take k) ++ [l.con] else doneL (d.done.take k)) := h1
      clear hl' h1
      obtain ⟨g2, g3⟩ := mrkCells_below hbl g1
      have zb : bx < wr.heap.size := World.block_lt_of_cell? wr _ g2
      have hmk : m ≤ k := by rw [← HM.out]; exact hl
      clear hl g1
      by_cases he : l.val = 1
      · have he' : (l.val == 1) = true := by simp [he]
        have HD : Hid (doneL (d.done.take (k + 1)) = doneL (d.done.take k) ++ [l.con]) := by show _ = _; rw [H1.out, if_pos he]
        clear H1
        rw [he] at g3
        have hobl : ∀ b', (Value.slice p m q).ownBlock = some b' → w.heap.size ≤ b' ∧ b' < wr.heap.size := fun b' h => HO.out.lt b' h
        have HOl : Hid (∀ b', (Value.slice p m q).ownBlock = some b' → w.heap.size ≤ b' ∧ b' < wr.heap.size) := hobl
        clear hobl
        go_wp2_with (at_builtin; refine wpList_append_own_at _ rfl _ _ 25 rfl w.heap.size 2 i0 _ 1 8 Tryz.underlying25 HI0.out.1 HI0.out.2.1 HI0.out.2.2.1 HI0.out.2.2.2 rfl (by decide) _ m (intsC (doneL (d.done.take k))) rfl (owns_below HO.out (balloc (balloc (Below.refl _ _) _) _)) ⟨wr.heap.size + 1, 0, none⟩ 1 1 [.int .i64 l.con] rfl rfl ?c1 ?c2 ?c3 ?c4 ?c5 ?_)
        case c1 =>
          intro j u hj
          match j, hj with
          | 0, hj => simp at hj; subst hj; simp [Addr.add, go_sem]
          | j + 1, hj => simp at hj
        case c2 =>
          intro u hu
          rw [List.mem_singleton] at hu
          rw [hu]
          rfl
        case c3 => unfold maxLen; omega
        case c4 => omega
        case c5 => have := hbl.size; simp; omega
        intro v6 w6 o6 g6 _ l6
        obtain ⟨a6, c6, rfl⟩ := owns_form o6
        have hB6 : Below w.heap.size w w6 := ((balloc (balloc hbl _) _)).grown g6 (by have := hbl.size; simp; omega) (fun b' h => (HOl.out b' h).1)
        have HO6 : Hid (w6.ownsRow w.heap.size 2 1 (.slice a6 (m + 1) c6) (m + 1) (intsC (doneL (d.done.take (k + 1))))) := by
          show World.ownsRow _ _ _ _ _ _ _
          rw [HD.out]
          have e : intsC (doneL (d.done.take k) ++ [l.con]) = intsC (doneL (d.done.take k)) ++ [.int .i64 l.con] := by simp [intsC]
          rw [e]
          exact o6
        have HM6 : Hid ((doneL (d.done.take (k + 1))).length = m + 1) := by show _ = _; rw [HD.out, List.length_append, HM.out]; rfl
        clear o6 g6 l6
        go_wp2
        exact ⟨⟨k + 1, m + 1, a6, c6, by omega, rfl, by go_num, HM6, HO6, hB6⟩, by simp [intOf]; omega⟩
      · have he' : (l.val == 1) = false := by simp [he]
        have HD : Hid (doneL (d.done.take (k + 1)) = doneL (d.done.take k)) := by show _ = _; rw [H1.out, if_neg he]
        have HM6 : Hid ((doneL (d.done.take (k + 1))).length = m) := by show _ = _; rw [HD.out, HM.out]
        clear H1
        go_wp2
        refine ⟨⟨k + 1, m, p, q, by omega, rfl, by go_num, HM6, ?_, by (repeat (first | exact Below.refl _ _ | assumption | refine Below.drew ?_ | refine balloc ?_ _ | refine bset ?_ (by simp; omega) _ | refine bset ?_ (by simp) _ | refine bstep ?_ (by assumption)))⟩, by simp [intOf]; omega⟩
        show World.ownsRow _ _ _ _ _ _ _
        rw [HD.out]
        exact owns_below HO.out (by (repeat (first | exact Below.refl _ _ | assumption | refine Below.drew ?_ | refine balloc ?_ _ | refine bset ?_ (by simp; omega) _ | refine bset ?_ (by simp) _ | refine bstep ?_ (by assumption))))
    · have hkn : k = n4 := by omega
      subst hkn
      have ho := HO.out
      have hm := HM.out
      rw [HDe.out] at ho hm
      have HOe : Hid (wr.ownsRow w.heap.size 2 1 (.slice p m q) m (intsC (doneL d.done))) := ho
      have HMe : Hid ((doneL d.done).length = m) := hm
      clear ho hm HO HM
      go_wp2
      go_ret
      exact ⟨_, rfl, by rw [HMe.out]; exact HOe.out, by (repeat (first | exact Below.refl _ _ | assumption | refine Below.drew ?_ | refine balloc ?_ _ | refine bset ?_ (by simp; omega) _ | refine bset ?_ (by simp) _ | refine bstep ?_ (by assumption)))⟩
end Go.Proofs.YtndghenlapbaaaaGreatDoor

