import Derived.Test.YtndghenlapbaaaaGreatVoS
import Derived.BigQuiet
import Derived.Deep.QuietTactic
import Derived.Deep.RegionHeld3
import Derived.Test.YtndghenlapbaaaaGreatPrnVoteShardLaw1
import Derived.Deep.Slices
import Derived.Lib.SmallJoins
set_option linter.unusedSimpArgs false
set_option linter.unusedVariables false
set_option linter.unusedSectionVars false

/-
 VoteShard, the document's.
-/
namespace Go.Proofs.YtndghenlapbaaaaGreat
open Go.RowKit
variable [DecidableEq Rw] [Inhabited Rw] [DecidableEq Bal] [Inhabited Bal] [DecidableEq Ledg] [Inhabited Ledg] [DecidableEq Leg] [Inhabited Leg] [DecidableEq Cont] [Inhabited Cont] [DecidableEq LedgR] [Inhabited LedgR] [DecidableEq OutcR] [Inhabited OutcR] [DecidableEq Mrk] [Inhabited Mrk] [DecidableEq Shd] [Inhabited Shd] [DecidableEq ShdR] [Inhabited ShdR]
attribute [local go_sem ↓] Go.wp_at_zero Go.wp_at_succ

set_option maxRecDepth 20000 in
set_option maxHeartbeats 4000000 in
theorem specVote_u (x y : Value) (d : Shd) (c : Cont) (w : World) (hx : shdR.V w x d) (hy : contR.V w y c) :
  Calls Tryz.prog 7 #[x, y] w (VoteE w (voteD d c)) := by
 have HSf : Hid (∀ W, Below w.heap.size w W → Calls Tryz.prog 25 #[x] W fun e w' => e = .returned (.int .i64 (shdF d)) ∧ Below W.heap.size W w') := fun W hW => specShdF_any x d W (shdR.below hx hW)
 have HVt : Hid (∀ W, Below w.heap.size w W → shdF d = 0 → contractFault c.id c.legs = 0 → Calls Tryz.prog 28 #[x, y] W (VoteE W (votedD d c))) := fun W hW h0 h1 => l10Vote_u x y d c W (shdR.below hx hW) (contR.below hy hW) (shdOk_of h0) h1
 obtain ⟨uy, rfl, hy⟩ := hy
 have HCf : Hid (∀ W, Below w.heap.size w W → Calls Tryz.prog 26 #[.agg #[.int .i64 c.id, uy]] W fun e w' => e = .returned (.int .i64 (contractFault c.id c.legs)) ∧ Below W.heap.size W w') := fun W hW => specFault_any c.id uy c.legs W (legsR.below hy hW)
 have HLe : Hid (∀ W, Below w.heap.size w W → contractFault c.id c.legs = 0 → Calls Tryz.prog 27 #[.agg #[.int .i64 c.id, uy], .int .i64 d.idx] W fun e w' => ∃ v, e = .returned v ∧ w'.ownsRow W.heap.size 93 4 v (onSh d.idx c.legs).length (legsC (onSh d.idx c.legs)) ∧ Below W.heap.size W w') := fun W hW hcf => l1Legs_any _ _ _ _ W (legsR.below hy hW) (by have := cf_len hcf; omega)
 obtain ⟨a1, a2, a3, a4, a5, c1, c2, c3, c4, c5, rfl⟩ := shd_form hx
 obtain ⟨ax, cx, rfl⟩ := legs_form hy
 clear hx hy
 have HE0 : Hid (¬ shdF d = 0 → voteD d c = errH (shdF d)) := fun h => by unfold voteD; rw [if_neg h]
 have HE1 : Hid (shdF d = 0 → ¬ contractFault c.id c.legs = 0 → voteD d c = errH (contractFault c.id c.legs)) := fun h h1 => by unfold voteD; rw [if_pos h, if_neg h1]
 have HE2 : Hid (shdF d = 0 → contractFault c.id c.legs = 0 → (onSh d.idx c.legs).length = 0 → voteD d c = errH 4) := fun h h1 h2 => by unfold voteD; rw [if_pos h, if_pos h1, if_pos h2]
 have HE3 : Hid (shdF d = 0 → contractFault c.id c.legs = 0 → ¬ (onSh d.idx c.legs).length = 0 → voteD d c = votedD d c) := fun h h1 h2 => by unfold voteD; rw [if_pos h, if_pos h1, if_neg h2]
 generalize d.bals.length = n1 at *
 generalize d.votes.length = n2 at *
 generalize d.held.length = n3 at *
 generalize d.done.length = n4 at *
 generalize d.appl.length = n5 at *
 generalize c.legs.length = nx at *
 generalize voteD d c = Z at *
 generalize shdF d = sf at *
 generalize contractFault c.id c.legs = cf at *
 go_enter Tryz.func7, Tryz.ntmps7
 go_wp2_with fail
 refine (HSf.out _ (qBq)).mono ?_
 rintro e w1 ⟨rfl, hb1⟩
 have hB1 : Below w.heap.size w w1 := bS (qBq) hb1
 have hz1 := hb1.size
 simp at hz1
 have y0 : w1.cell? ⟨w.heap.size, 0, none⟩ = some (.int .i64 d.idx) := cK hb1 (by simp [go_sem])
 have y1 : w1.cell? ⟨w.heap.size, 1, none⟩ = some (.slice a1 n1 c1) := cK hb1 (by simp [go_sem])
 have y2 : w1.cell? ⟨w.heap.size, 2, none⟩ = some (.slice a2 n2 c2) := cK hb1 (by simp [go_sem])
 have y3 : w1.cell? ⟨w.heap.size, 3, none⟩ = some (.slice a3 n3 c3) := cK hb1 (by simp [go_sem])
 have y4 : w1.cell? ⟨w.heap.size, 4, none⟩ = some (.slice a4 n4 c4) := cK hb1 (by simp [go_sem])
 have y5 : w1.cell? ⟨w.heap.size, 5, none⟩ = some (.slice a5 n5 c5) := cK hb1 (by simp [go_sem])
 have x0 : w1.cell? ⟨w.heap.size + 1, 0, none⟩ = some (.int .i64 c.id) := cK hb1 (by simp [go_sem])
 have x1 : w1.cell? ⟨w.heap.size + 1, 1, none⟩ = some (.slice ax nx cx) := cK hb1 (by simp [go_sem])
 have r0 : w1.cell? ⟨w.heap.size + 2, 0, none⟩ = some (.int .i64 0) := cK hb1 (by simp [go_sem])
 have r1 : w1.cell? ⟨w.heap.size + 2, 1, none⟩ = some (.int .i64 0) := cK hb1 (by simp [go_sem])
 have r2 : w1.cell? ⟨w.heap.size + 2, 2, none⟩ = some (.int .i64 0) := cK hb1 (by simp [go_sem])
 have r3 : w1.cell? ⟨w.heap.size + 2, 3, none⟩ = some (.slice none 0 0) := cK hb1 (by simp [go_sem])
 have r4 : w1.cell? ⟨w.heap.size + 2, 4, none⟩ = some (.slice none 0 0) := cK hb1 (by simp [go_sem])
 have r5 : w1.cell? ⟨w.heap.size + 2, 5, none⟩ = some (.slice none 0 0) := cK hb1 (by simp [go_sem])
 have r6 : w1.cell? ⟨w.heap.size + 2, 6, none⟩ = some (.slice none 0 0) := cK hb1 (by simp [go_sem])
 have r7 : w1.cell? ⟨w.heap.size + 2, 7, none⟩ = some (.slice none 0 0) := cK hb1 (by simp [go_sem])
 have rf : ∀ o, w1.frozen? ⟨w.heap.size + 2, o, none⟩ = false := fun o => by rw [(bcell hb1).2 _ _ (by simp)]; simp [go_sem]
 clear hb1 HSf
 by_cases hsf : sf = 0
 rotate_left
 ·
  have HC : Hid (Z = errH sf) := HE0.out hsf
  have hsf' : (sf != 0) = true := by simp [hsf]
  go_wp2
  refine bodyPost_ret (v := .agg #[.int .i64 sf, .int .i64 0, .int .i64 0, .slice none 0 0, .slice none 0 0, .slice none 0 0, .slice none 0 0, .slice none 0 0]) (by simp [results, Tryz.results7, go_sem, r0, r1, r2, r3, r4, r5, r6, r7, rf]) rfl (vote_err HC.out ?_)
  (repeat (first | refine bset ?_ (by simp; omega) _ | refine bset ?_ (by simp) _ | refine bA ?_ _ | assumption))
 have hsf' : (sf != 0) = false := by simp [hsf]
 go_wp2_with fail
 refine (HCf.out _ hB1).mono ?_
 rintro e w2 ⟨rfl, hb2⟩
 have hB2 : Below w.heap.size w w2 := bS hB1 hb2
 replace y0 := cK hb2 y0
 replace y1 := cK hb2 y1
 replace y2 := cK hb2 y2
 replace y3 := cK hb2 y3
 replace y4 := cK hb2 y4
 replace y5 := cK hb2 y5
 replace x0 := cK hb2 x0
 replace x1 := cK hb2 x1
 replace r0 := cK hb2 r0
 replace r1 := cK hb2 r1
 replace r2 := cK hb2 r2
 replace r3 := cK hb2 r3
 replace r4 := cK hb2 r4
 replace r5 := cK hb2 r5
 replace r6 := cK hb2 r6
 replace r7 := cK hb2 r7
 replace rf : ∀ o, w2.frozen? ⟨w.heap.size + 2, o, none⟩ = false := fun o => by rw [(bcell hb2).2 _ _ (by omega)]; exact rf o
 have hz2 := hb2.size
 clear HCf hb2
 by_cases hcf : cf = 0
 rotate_left
 ·
  have HC : Hid (Z = errH cf) := HE1.out hsf hcf
  have hcf' : (cf != 0) = true := by simp [hcf]
  go_wp2
  refine bodyPost_ret (v := .agg #[.int .i64 cf, .int .i64 0, .int .i64 0, .slice none 0 0, .slice none 0 0, .slice none 0 0, .slice none 0 0, .slice none 0 0]) (by simp [results, Tryz.results7, go_sem, r0, r1, r2, r3, r4, r5, r6, r7, rf]) rfl (vote_err HC.out ?_)
  (repeat (first | refine bset ?_ (by simp; omega) _ | refine bset ?_ (by simp) _ | refine bA ?_ _ | assumption))
 have hcf' : (cf != 0) = false := by simp [hcf]
 go_wp2_with fail
 refine (HLe.out _ hB2 hcf).mono ?_
 rintro e w3 ⟨v3, rfl, o3, hb3⟩
 obtain ⟨a6, c6, rfl⟩ := owns_form o3
 have hB3 : Below w.heap.size w w3 := bS hB2 hb3
 replace y0 := cK hb3 y0
 replace y1 := cK hb3 y1
 replace y2 := cK hb3 y2
 replace y3 := cK hb3 y3
 replace y4 := cK hb3 y4
 replace y5 := cK hb3 y5
 replace x0 := cK hb3 x0
 replace x1 := cK hb3 x1
 replace r0 := cK hb3 r0
 replace r1 := cK hb3 r1
 replace r2 := cK hb3 r2
 replace r3 := cK hb3 r3
 replace r4 := cK hb3 r4
 replace r5 := cK hb3 r5
 replace r6 := cK hb3 r6
 replace r7 := cK hb3 r7
 replace rf : ∀ o, w3.frozen? ⟨w.heap.size + 2, o, none⟩ = false := fun o => by rw [(bcell hb3).2 _ _ (by omega)]; exact rf o
 have hz3 := hb3.size
 have HE2' : Hid ((onSh d.idx c.legs).length = 0 → Z = errH 4) := fun h => HE2.out hsf hcf h
 have HE3' : Hid (¬ (onSh d.idx c.legs).length = 0 → Z = votedD d c) := fun h => HE3.out hsf hcf h
 have HVt' : Hid (∀ W, Below w.heap.size w W → Calls Tryz.prog 28 #[.agg #[.int .i64 d.idx, .slice a1 n1 c1, .slice a2 n2 c2, .slice a3 n3 c3, .slice a4 n4 c4, .slice a5 n5 c5], .agg #[.int .i64 c.id, .slice ax nx cx]] W (VoteE W (votedD d c))) := fun W hW => HVt.out W hW hsf hcf
 clear o3 HE0 HE1 HE2 HE3 HLe HVt hsf hcf hb3
 generalize (onSh d.idx c.legs).length = nl at *
 by_cases hl : nl = 0
 ·
  have HC : Hid (Z = errH 4) := HE2'.out hl
  have hl' : ((nl : Int) == 0) = true := by simp [hl]
  clear HE2' HE3' HVt'
  go_wp2
  refine bodyPost_ret (v := .agg #[.int .i64 4, .int .i64 0, .int .i64 0, .slice none 0 0, .slice none 0 0, .slice none 0 0, .slice none 0 0, .slice none 0 0]) (by simp [results, Tryz.results7, go_sem, r0, r1, r2, r3, r4, r5, r6, r7, rf]) rfl (vote_err HC.out ?_)
  (repeat (first | refine bset ?_ (by simp; omega) _ | refine bset ?_ (by simp) _ | refine bA ?_ _ | assumption))
 ·
  have HC : Hid (Z = votedD d c) := HE3'.out hl
  have hl' : ((nl : Int) == 0) = false := by simpa using hl
  clear HE2' HE3'
  go_wp2_with fail
  refine (HVt'.out _ hB3).mono ?_
  rintro e w4 ⟨v4, F4, rfl, o4, hb4⟩
  generalize votedD d c = VD at *
  obtain ⟨cd, vt, sd⟩ := VD
  obtain ⟨p1, p2, p3, p4, p5, m1, m2, m3, m4, m5, q1, q2, q3, q4, q5, rfl⟩ := shdRR_form o4
  have HO4 : Hid (shdRR.O w4 w3.heap.size F4 (.agg #[.int .i64 cd, .int .i64 vt, .int .i64 sd.idx, .slice p1 m1 q1, .slice p2 m2 q2, .slice p3 m3 q3, .slice p4 m4 q4, .slice p5 m5 q5]) ⟨cd, vt, sd⟩) := o4
  have hB4 : Below w.heap.size w w4 := bS hB3 hb4
  replace r0 := cK hb4 r0
  replace r1 := cK hb4 r1
  replace r2 := cK hb4 r2
  replace r3 := cK hb4 r3
  replace r4 := cK hb4 r4
  replace r5 := cK hb4 r5
  replace r6 := cK hb4 r6
  replace r7 := cK hb4 r7
  replace rf : ∀ o, w4.frozen? ⟨w.heap.size + 2, o, none⟩ = false := fun o => by rw [(bcell hb4).2 _ _ (by omega)]; exact rf o
  clear o4 hb4 HVt'
  go_wp2
  refine bodyPost_ret (v := .agg #[.int .i64 cd, .int .i64 vt, .int .i64 sd.idx, .slice p1 m1 q1, .slice p2 m2 q2, .slice p3 m3 q3, .slice p4 m4 q4, .slice p5 m5 q5]) (by simp [results, Tryz.results7, go_sem, r0, r1, r2, r3, r4, r5, r6, r7, rf]) rfl ?_
  rw [HC.out]
  refine ⟨_, F4, rfl, shdRR.base (setR8 shdRR HO4.out (fun h => by have := (shdRR.rng HO4.out _ h).1; omega) _ _ _ _ _ _ _ _) (by omega), ?_⟩
  (repeat (first | refine bset ?_ (by simp; omega) _ | refine bset ?_ (by simp) _ | refine bA ?_ _ | assumption))
end Go.Proofs.YtndghenlapbaaaaGreat

/-
 How much a shard without a fault weighs; VoteShard said plainly.
-/
namespace Go.Proofs.YtndghenlapbaaaaGreat
open Go.RowKit
variable [DecidableEq Rw] [Inhabited Rw] [DecidableEq Bal] [Inhabited Bal] [DecidableEq Ledg] [Inhabited Ledg] [DecidableEq Leg] [Inhabited Leg] [DecidableEq Cont] [Inhabited Cont] [DecidableEq LedgR] [Inhabited LedgR] [DecidableEq OutcR] [Inhabited OutcR] [DecidableEq Mrk] [Inhabited Mrk] [DecidableEq Shd] [Inhabited Shd] [DecidableEq ShdR] [Inhabited ShdR]

theorem cntTo_cap {α : Type} [Inhabited α] (f : α → Nat) (M : Nat) (xs : List α) (h : ∀ k, k < xs.length → f (xs.getD k default) ≤ M) : ∀ k, k ≤ xs.length → cntTo f k xs ≤ M * k
 | 0, _ => by simp [cntTo]
 | k + 1, hk => by
  have ih := cntTo_cap f M xs h k (by omega)
  rw [cntTo_succ f k xs (by omega)]
  have := h k (by omega)
  rw [Nat.mul_succ]
  omega
theorem conts_wt {xs : List Cont} (hn : xs.length ≤ 101) (h : ∀ k, k < xs.length → (xs.getD k default).legs.length ≤ 8) : wtConts xs ≤ 909 := by
 have h1 := cntTo_cap wtCont 8 xs (fun k hk => by have := h k hk; unfold wtCont wtLegs; omega) xs.length (Nat.le_refl _)
 unfold wtConts wtL
 omega
theorem shd_wt {d : Shd} (h1 : d.bals.length ≤ 100) (h2 : d.votes.length ≤ 101) (h3 : d.held.length ≤ 101) (h4 : d.done.length ≤ 101) (h5 : d.appl.length ≤ 101) (h : ∀ k, k < d.held.length → (d.held.getD k default).legs.length ≤ 8) : wtShd d ≤ 2000 := by
 have := conts_wt h3 h
 unfold wtShd wtBals wtMrks wtInts
 omega
theorem putC_legs {xs : List Cont} {c : Cont} (h : ∀ k, k < xs.length → (xs.getD k default).legs.length ≤ 8) (hc : c.legs.length ≤ 8) : ∀ k, k < (putC xs c).length → ((putC xs c).getD k default).legs.length ≤ 8 := fun k hk => by
 have hp := posC_le c.id xs
 rw [putC_len] at hk
 unfold putC
 rw [getD_ins xs c _ k hp]
 unfold insF
 split
 ·
  exact h k (by omega)
 ·
  split
  ·
   exact hc
  ·
   exact h (k - 1) (by omega)
theorem errH_wt (c : Int) : wtShdR (errH c) = 0 := rfl
theorem voteD_wt (d : Shd) (c : Cont) : wtShdR (voteD d c) ≤ 2000 := by
 by_cases h0 : shdF d = 0
 ·
  have ok := shdOk_of h0
  have hb := (balsOk_of (base_idx ok.base).2).len
  have l1 := ok.ls.nv
  have l2 := ok.ls.nh
  have l3 := ok.ls.nd
  have l4 := ok.ls.na
  have hl : ∀ k, k < d.held.length → (d.held.getD k default).legs.length ≤ 8 := fun k hk => ok.held.len hk
  unfold voteD
  rw [if_pos h0]
  by_cases h1 : contractFault c.id c.legs = 0
  ·
   rw [if_pos h1]
   split
   ·
    rw [errH_wt]; omega
   ·
    unfold votedD
    split
    ·
     split
     ·
      rw [errH_wt]; omega
     ·
      split
      ·
       exact shd_wt (d := ⟨d.idx, d.bals, putM d.votes ⟨c.id, 1⟩, putC d.held c, d.done, d.appl⟩) (by show d.bals.length ≤ 100; omega) (by show (putM d.votes _).length ≤ 101; rw [putM_len]; omega) (by show (putC d.held c).length ≤ 101; rw [putC_len]; omega) (by show d.done.length ≤ 101; omega) (by show d.appl.length ≤ 101; omega) (putC_legs hl (cf_len h1))
      ·
       exact shd_wt (d := ⟨d.idx, d.bals, putM d.votes ⟨c.id, 2⟩, d.held, d.done, d.appl⟩) (by show d.bals.length ≤ 100; omega) (by show (putM d.votes _).length ≤ 101; rw [putM_len]; omega) (by show d.held.length ≤ 101; omega) (by show d.done.length ≤ 101; omega) (by show d.appl.length ≤ 101; omega) hl
    ·
     exact shd_wt (d := d) (by omega) (by omega) (by omega) (by omega) (by omega) hl
  ·
   rw [if_neg h1, errH_wt]; omega
 ·
  unfold voteD
  rw [if_neg h0, errH_wt]
  omega
theorem specVote_w (x y : Value) (d : Shd) (c : Cont) (w : World) (hx : shdR.V w x d) (hy : contR.V w y c) :
  Calls Tryz.prog 7 #[x, y] w fun e w' => ∃ v F, e = .returned v ∧ shdRR.O w' w.heap.size F v (voteD d c) ∧ Below w.heap.size w w' := specVote_u x y d c w hx hy
theorem implVote_w (x y : Value) (d : Shd) (c : Cont) (w : World) (hx : shdR.V w x d) (hy : contR.V w y c) :
  Calls Tryz.prog 10 #[x, y] w fun e w' => ∃ v F, e = .returned v ∧ shdRR.O w' w.heap.size F v (voteD d c) ∧ Below w.heap.size w w' := implVote_u x y d c w hx hy
end Go.Proofs.YtndghenlapbaaaaGreat

/-
 Cells that are kept, still more.
-/
namespace Go.Proofs.YtndghenlapbaaaaGreat
open Go.RowKit
theorem keepN32 {w w' : World} {a0 : Addr} {x0 : Value} {a1 : Addr} {x1 : Value} {a2 : Addr} {x2 : Value} {a3 : Addr} {x3 : Value} {a4 : Addr} {x4 : Value} {a5 : Addr} {x5 : Value} {a6 : Addr} {x6 : Value} {a7 : Addr} {x7 : Value} {a8 : Addr} {x8 : Value} {a9 : Addr} {x9 : Value} {a10 : Addr} {x10 : Value} {a11 : Addr} {x11 : Value} {a12 : Addr} {x12 : Value} {a13 : Addr} {x13 : Value} {a14 : Addr} {x14 : Value} {a15 : Addr} {x15 : Value} {a16 : Addr} {x16 : Value} {a17 : Addr} {x17 : Value} {a18 : Addr} {x18 : Value} {a19 : Addr} {x19 : Value} {a20 : Addr} {x20 : Value} {a21 : Addr} {x21 : Value} {a22 : Addr} {x22 : Value} {a23 : Addr} {x23 : Value} {a24 : Addr} {x24 : Value} {a25 : Addr} {x25 : Value} {a26 : Addr} {x26 : Value} {a27 : Addr} {x27 : Value} {a28 : Addr} {x28 : Value} {a29 : Addr} {x29 : Value} {a30 : Addr} {x30 : Value} {a31 : Addr} {x31 : Value} (hb : Below w.heap.size w w') (g0 : w.cell? a0 = some x0) (g1 : w.cell? a1 = some x1) (g2 : w.cell? a2 = some x2) (g3 : w.cell? a3 = some x3) (g4 : w.cell? a4 = some x4) (g5 : w.cell? a5 = some x5) (g6 : w.cell? a6 = some x6) (g7 : w.cell? a7 = some x7) (g8 : w.cell? a8 = some x8) (g9 : w.cell? a9 = some x9) (g10 : w.cell? a10 = some x10) (g11 : w.cell? a11 = some x11) (g12 : w.cell? a12 = some x12) (g13 : w.cell? a13 = some x13) (g14 : w.cell? a14 = some x14) (g15 : w.cell? a15 = some x15) (g16 : w.cell? a16 = some x16) (g17 : w.cell? a17 = some x17) (g18 : w.cell? a18 = some x18) (g19 : w.cell? a19 = some x19) (g20 : w.cell? a20 = some x20) (g21 : w.cell? a21 = some x21) (g22 : w.cell? a22 = some x22) (g23 : w.cell? a23 = some x23) (g24 : w.cell? a24 = some x24) (g25 : w.cell? a25 = some x25) (g26 : w.cell? a26 = some x26) (g27 : w.cell? a27 = some x27) (g28 : w.cell? a28 = some x28) (g29 : w.cell? a29 = some x29) (g30 : w.cell? a30 = some x30) (g31 : w.cell? a31 = some x31) : Below w.heap.size w w' ∧ w'.cell? a0 = some x0 ∧ w'.cell? a1 = some x1 ∧ w'.cell? a2 = some x2 ∧ w'.cell? a3 = some x3 ∧ w'.cell? a4 = some x4 ∧ w'.cell? a5 = some x5 ∧ w'.cell? a6 = some x6 ∧ w'.cell? a7 = some x7 ∧ w'.cell? a8 = some x8 ∧ w'.cell? a9 = some x9 ∧ w'.cell? a10 = some x10 ∧ w'.cell? a11 = some x11 ∧ w'.cell? a12 = some x12 ∧ w'.cell? a13 = some x13 ∧ w'.cell? a14 = some x14 ∧ w'.cell? a15 = some x15 ∧ w'.cell? a16 = some x16 ∧ w'.cell? a17 = some x17 ∧ w'.cell? a18 = some x18 ∧ w'.cell? a19 = some x19 ∧ w'.cell? a20 = some x20 ∧ w'.cell? a21 = some x21 ∧ w'.cell? a22 = some x22 ∧ w'.cell? a23 = some x23 ∧ w'.cell? a24 = some x24 ∧ w'.cell? a25 = some x25 ∧ w'.cell? a26 = some x26 ∧ w'.cell? a27 = some x27 ∧ w'.cell? a28 = some x28 ∧ w'.cell? a29 = some x29 ∧ w'.cell? a30 = some x30 ∧ w'.cell? a31 = some x31 :=
 ⟨hb, cK hb g0, cK hb g1, cK hb g2, cK hb g3, cK hb g4, cK hb g5, cK hb g6, cK hb g7, cK hb g8, cK hb g9, cK hb g10, cK hb g11, cK hb g12, cK hb g13, cK hb g14, cK hb g15, cK hb g16, cK hb g17, cK hb g18, cK hb g19, cK hb g20, cK hb g21, cK hb g22, cK hb g23, cK hb g24, cK hb g25, cK hb g26, cK hb g27, cK hb g28, cK hb g29, cK hb g30, cK hb g31⟩
end Go.Proofs.YtndghenlapbaaaaGreat

/-
 What is handed in, read as data, is data in memory: rows and structs of rows.
-/
namespace Go.Proofs.YtndghenlapbaaaaGreat
open Go.ChangeShapes Go.WideShapes Go.ChangeAt Go.RowKit Go.Joins

theorem spot_none {W : World} {base k : Nat} {a : Addr} {cs : List Value} (hk : 0 < k) (hc : W.cells? base a k = some cs) : a.spot = none := by
 obtain ⟨hb, hl, hcell⟩ := World.cells?_some hc
 have q0 := hcell 0 hk
 obtain ⟨b, o, s⟩ := a
 cases s with
 | none => rfl
 | some s =>
  have : 0 < cs.length := by omega
  simp [Addr.add, World.cell?, this] at q0
  split at q0 <;> simp at q0
theorem add_plain (b o i : Nat) : (Addr.mk b o none).add i = ⟨b, o + i, none⟩ := by
 by_cases h : i = 0
 ·
  subst h; simp [Addr.add]
 ·
  simp [Addr.add, h]
theorem openRow {H : Type} {enc : TypeId × Value → H} {W : World} {sp : Nat → Bool} {held : Bool} {n : Nat} {v : Value} {y : DataW H × List MemPlace} {t e size : Nat} {α : Type} [Inhabited α] {q : List Value → α → Prop}
  (ht : Tryz.prog.underlying t = some (.slice e)) (hz : Tryz.prog.cellsOf e = size) (hs : 0 < size)
  (hq : ∀ n cs y, DataW.trod enc Tryz.prog W 0 sp held n e cs = some y → cs.length = size → ∃ x, q cs x) (h : DataW.trod enc Tryz.prog W 0 sp held n t [v] = some y) :
  ∃ (a : Option Addr) (cap : Nat) (xs : List α) (cs : Nat → List Value), v = .slice a xs.length cap ∧ xs.length ≤ cap ∧ cap ≤ maxLen ∧ ∀ i, i < xs.length → q (cs i) (xs.getD i default) ∧ (cs i).length = size ∧ ∃ b o, a = some ⟨b, o, none⟩ ∧ ∀ j, j < size → W.cell? ⟨b, o + i * size + j, none⟩ = (cs i)[j]? := by
 rcases Go.Deep.open_slice ht h with ⟨hcs, _⟩ | ⟨a, len, cap, m, n', D, Pl, hcs, hb, hl, hm, hmm, _, hc⟩
 ·
  simp at hcs
  subst hcs
  exact ⟨none, 0, [], fun _ => [], rfl, by simp, by unfold maxLen; omega, fun i hi => by simp at hi⟩
 ·
  simp at hcs
  subst hcs
  have hlm : len ≤ m := by rw [hmm]; split <;> omega
  rw [hz] at hc
  have h1 : ∀ i, i < len → ∃ z : List Value × α, q z.1 z.2 ∧ z.1.length = size ∧ ∃ b o, a = ⟨b, o, none⟩ ∧ ∀ j, j < size → W.cell? ⟨b, o + i * size + j, none⟩ = z.1[j]? := by
   intro i hi
   obtain ⟨cs', h1, h2⟩ := hc i (by omega)
   obtain ⟨_, hl', hcell⟩ := World.cells?_some h1
   obtain ⟨x, hx⟩ := hq _ _ _ h2 hl'
   obtain ⟨cs0, k1, _⟩ := hc 0 (by omega)
   have hsp := spot_none hs k1
   obtain ⟨b, o, s⟩ := a
   have hs0 : s = none := by simpa [Addr.add] using hsp
   subst hs0
   refine ⟨(cs', x), hx, hl', b, o, rfl, fun j hj => ?_⟩
   have := hcell j hj
   rw [add_plain, add_plain] at this
   exact this
  obtain ⟨f, hf⟩ := Go.Deep.choose_lt h1
  refine ⟨some a, cap, (List.range len).map (fun i => (f i).2), fun i => (f i).1, by simp, by simpa using hl, hm, fun i hi => ?_⟩
  simp at hi
  obtain ⟨g1, g2, b, o, rfl, g3⟩ := hf i hi
  have e : (List.map (fun i => (f i).2) (List.range len)).getD i default = (f i).2 := by simp [List.getD, hi]
  rw [e]
  exact ⟨g1, g2, b, o, rfl, g3⟩
theorem openN {H : Type} {enc : TypeId × Value → H} {W : World} {sp : Nat → Bool} {held : Bool} {n : Nat} {v : Value} {y : DataW H × List MemPlace} {t e size : Nat} {α : Type} [Inhabited α] {R : Rep α} {te : Nat} {lv : Value → List Value}
  (ht : Tryz.prog.underlying t = some (.slice e)) (hz : Tryz.prog.cellsOf e = size) (hs : 0 < size)
  (hq : ∀ n cs y, DataW.trod enc Tryz.prog W 0 sp held n e cs = some y → cs.length = size → ∃ x u, lv u = cs ∧ R.V W u x) (h : DataW.trod enc Tryz.prog W 0 sp held n t [v] = some y) :
  ∃ xs : List α, (nRep R te size lv).V W v xs := by
 obtain ⟨a, cap, xs, cs, rfl, h1, h2, h3⟩ := openRow (q := fun cs x => ∃ u, lv u = cs ∧ R.V W u x) ht hz hs hq h
 refine ⟨xs, a, cap, rfl, h1, h2, fun i hi => ?_⟩
 obtain ⟨⟨u, g1, g2⟩, g3, b, o, g4, g5⟩ := h3 i hi
 exact ⟨b, o, u, g4, by rw [g1]; exact g3, fun j hj => by rw [g1]; exact g5 j hj, g2⟩
end Go.Proofs.YtndghenlapbaaaaGreat

