import Derived.Test.YtndghenlapbaaaaGreatPrnVoteShardLaw24
import Derived.Test.YtndghenlapbaaaaGreatPrnVoteShardLaw16
import Derived.Test.YtndghenlapbaaaaGreatPrnVoteShardLaw15
import Derived.BigQuiet
import Derived.Deep.QuietTactic
import Derived.Deep.RegionHeld3
import Derived.Test.YtndghenlapbaaaaGreatPrnVoteShardLaw13
import Derived.Test.YtndghenlapbaaaaGreatPrnVoteShardLaw4
import Derived.Test.YtndghenlapbaaaaGreatPrnVoteShardLaw2
import Derived.Shelf.Abstract
import Derived.Laws.CopyRow
import Derived.Laws.Externs
import Derived.Lib.Overlaps
import Derived.Lib.AppendZerosOnto
import Derived.Deep.RegionLaw
import Derived.Maps.AppendAt
set_option linter.unusedSectionVars false
set_option linter.unusedVariables false
set_option linter.unusedSimpArgs false

/-
 slices.Insert of one mark, whatever room there is.
-/
namespace Go.Proofs.YtndghenlapbaaaaGreat
open Go.RowKit Go.Shelf
variable [DecidableEq Mrk] [Inhabited Mrk] [DecidableEq Bal] [Inhabited Bal] [DecidableEq Ledg] [Inhabited Ledg] [DecidableEq Leg] [Inhabited Leg]

theorem mrksC_app (xs ys : List Mrk) : mrksC (xs ++ ys) = mrksC xs ++ mrksC ys := by simp [mrksC]
theorem mrksC_len (xs : List Mrk) : (mrksC xs).length = xs.length * 2 := by
 induction xs with
 | nil => rfl
 | cons x xs ih =>
  have e : mrksC (x :: xs) = mrkC x ++ mrksC xs := by simp [mrksC]
  have hl : (mrkC x).length = 2 := rfl
  rw [e, List.length_append, ih, hl, List.length_cons]
  omega
theorem mrkC_one (x : Mrk) : ∀ u ∈ mrkC x, u.oneCell' = true := by
 intro u hu
 simp [mrkC] at hu
 rcases hu with rfl | rfl <;> rfl
theorem mrksC_oneC (xs : List Mrk) : ∀ u ∈ mrksC xs, u.oneCell' = true := by
 intro u hu
 unfold mrksC at hu
 obtain ⟨x, _, h⟩ := List.mem_flatMap.1 hu
 exact mrkC_one x u h
theorem mrksC_take (xs : List Mrk) (i : Nat) : mrksC (xs.take i) = (mrksC xs).take (i * 2) := by
 induction xs generalizing i with
 | nil => simp [mrksC]
 | cons x xs ih =>
  cases i with
  | zero => simp [mrksC]
  | succ i =>
   have e : mrksC (x :: xs) = mrkC x ++ mrksC xs := by simp [mrksC]
   have e2 : mrksC ((x :: xs).take (i + 1)) = mrkC x ++ mrksC (xs.take i) := by simp [mrksC]
   have hl : (mrkC x).length = 2 := rfl
   rw [e, e2, ih, List.take_append]
   rw [List.take_of_length_le (l := mrkC x) (by omega), hl, show (i + 1) * 2 - 2 = i * 2 by omega]
theorem mrksC_drop (xs : List Mrk) (i : Nat) : mrksC (xs.drop i) = (mrksC xs).drop (i * 2) := by
 induction xs generalizing i with
 | nil => simp [mrksC]
 | cons x xs ih =>
  cases i with
  | zero => simp [mrksC]
  | succ i =>
   have e : mrksC (x :: xs) = mrkC x ++ mrksC xs := by simp [mrksC]
   have e2 : mrksC ((x :: xs).drop (i + 1)) = mrksC (xs.drop i) := by simp [mrksC]
   have hl : (mrkC x).length = 2 := rfl
   rw [e, e2, ih, List.drop_append]
   rw [List.drop_of_length_le (l := mrkC x) (by omega), hl, show (i + 1) * 2 - 2 = i * 2 by omega, List.nil_append]
def InsM (base : Nat) (v : Value) (ys : List Mrk) (w : World) (e : Ending) (w' : World) : Prop :=
 ∃ v', e = .returned v' ∧ w'.ownsRow base 89 2 v' ys.length (mrksC ys) ∧ Mod (fun b => v.ownBlock = some b) w w' ∧ (∀ b, v'.ownBlock = some b → v.ownBlock = some b ∨ (w.heap.size ≤ b ∧ b < w'.heap.size))
theorem insertM_any (base : Nat) (v : Value) (i vb : Nat) (xs : List Mrk) (r : Mrk) (w : World) (hown : w.ownsRow base 89 2 v xs.length (mrksC xs)) (hi : i ≤ xs.length) (hn : xs.length ≤ 1048000) (hbase : base ≤ w.heap.size)
  (hv : w.heap[vb]? = some (.cells (mrkC r).toArray 89 (0, 0))) (hvb : v.ownBlock ≠ some vb) :
  Calls Tryz.prog 110 #[v, .int .i64 i, .slice (some ⟨vb, 0, none⟩) 1 1] w (InsM base v (xs.take i ++ [r] ++ xs.drop i) w) := by
 have hl : (xs.take i ++ [r] ++ xs.drop i).length = xs.length + 1 := by simp only [List.length_append, List.length_take, List.length_drop, List.length_cons, List.length_nil]; omega
 have hcc : mrksC (xs.take i ++ [r] ++ xs.drop i) = (mrksC xs).take (i * 2) ++ mrkC r ++ (mrksC xs).drop (i * 2) := by
  rw [mrksC_app, mrksC_app, mrksC_take, mrksC_drop]
  simp [mrksC]
 have hcl : (mrksC xs).length = xs.length * 2 := mrksC_len xs
 unfold InsM
 rw [hl, hcc]
 by_cases hie : i = xs.length
 ·
  subst hie
  refine (insertM_end base v xs.length vb (mrksC xs) (mrkC r) w hown (by omega) hbase rfl hv (mrkC_one r)).mono ?_
  rintro e w' ⟨v', rfl, h1, h2, h3⟩
  refine ⟨v', rfl, ?_, Mod.of_grown h2, fun b hb => ?_⟩
  ·
   rw [List.take_of_length_le (by omega), List.drop_of_length_le (by omega), List.append_nil]
   exact h1
  ·
   rcases h3 with h3 | h3
   ·
    exact .inl (h3 ▸ hb)
   ·
    rw [h3] at hb
    simp only [Option.some.injEq] at hb
    have := (h1.lt b (by rw [h3, hb])).2
    exact .inr ⟨by omega, this⟩
 ·
  rcases hown.2 with ⟨_, h0⟩ | ⟨g, cap, cur, rfl, hbg, hg, hnc, hcm, hcs, htake⟩
  ·
   omega
  ·
   have hne : vb ≠ g := fun e => hvb (by rw [e]; rfl)
   have hgl : g < w.heap.size := (Array.getElem?_eq_some_iff.1 hg).1
   by_cases hroom : xs.length + 1 ≤ cap
   ·
    refine (insertM_shift g xs.length cap i vb (mrksC xs) (mrkC r) cur w hg (by omega) hroom (by unfold maxLen at hcm; omega) hne hcs hcl htake rfl hv (mrksC_oneC xs) (mrkC_one r)).mono ?_
    rintro e w' ⟨rfl, cur', h1, h2, h3, h4⟩
    refine ⟨_, rfl, ⟨?_, .inr ⟨g, cap, cur', rfl, hbg, h1, hroom, hcm, h2, h3⟩⟩, h4.mono (fun b h => by rw [h]; rfl), fun b hb => .inl hb⟩
    rw [← hcc, mrksC_len, hl]
   ·
    refine (insertM_grow g xs.length cap i vb (mrksC xs) (mrkC r) w (by omega) hnc (by omega) (by omega) hcl (fun j v hj => ?_) rfl hv (mrksC_oneC xs) (mrkC_one r)).mono ?_
    ·
     refine cell_rowM hg ?_
     rw [← htake, List.getElem?_take] at hj
     split at hj
     ·
      exact hj
     ·
      cases hj
    ·
     rintro e w' ⟨G, rfl, cur', h1, h2, h3, h4, h5, h6⟩
     have hlt := (Array.getElem?_eq_some_iff.1 h1).1
     refine ⟨_, rfl, ⟨?_, .inr ⟨w.heap.size, G, cur', rfl, hbase, h1, h2, h3, h4, h5⟩⟩, h6.mono (fun b h => h.elim), fun b hb => ?_⟩
     ·
      rw [← hcc, mrksC_len, hl]
     ·
      simp only [Value.ownBlock, Option.some.injEq] at hb
      exact .inr ⟨by omega, by omega⟩
end Go.Proofs.YtndghenlapbaaaaGreat

/-
 A mark put in its place, a vote written: the program's.
-/
namespace Go.Proofs.YtndghenlapbaaaaGreat
open Go.RowKit
variable [DecidableEq Leg] [Inhabited Leg] [DecidableEq Mrk] [Inhabited Mrk] [DecidableEq Bal] [Inhabited Bal] [DecidableEq Cont] [Inhabited Cont] [DecidableEq Shd] [Inhabited Shd] [DecidableEq ShdR] [Inhabited ShdR] [DecidableEq Rw] [Inhabited Rw] [DecidableEq Ledg] [Inhabited Ledg] [DecidableEq LedgR] [Inhabited LedgR] [DecidableEq OutcR] [Inhabited OutcR]
attribute [local go_sem ↓] Go.wp_at_zero Go.wp_at_succ

set_option maxRecDepth 20000 in
set_option maxHeartbeats 4000000 in
theorem withMark_u (x : Value) (xs : List Mrk) (m : Mrk) (base : Nat) (F : Nat → Prop) (w : World) (hx : mrksR.O w base F x xs) (hbase : base ≤ w.heap.size) (hn : xs.length ≤ 1000) (hr : ∀ i j, i < j → j < xs.length → (xs.getD i default).con < (xs.getD j default).con) :
  Calls Tryz.prog 77 #[x, .agg #[.int .i64 m.con, .int .i64 m.val]] w fun e w' => ∃ v F', e = .returned v ∧ mrksR.O w' base F' v (putM xs m) ∧ Mod F w w' ∧ ∀ b, F' b → F b ∨ w.heap.size ≤ b := by
 have HP : Hid (∀ W, Below w.heap.size w W → Calls Tryz.prog 74 #[x, .int .i64 m.con] W (PlM xs m.con W)) := fun W hW => markPlace_any x xs m.con W (mrksR.below (mrksR.ofO hx) hW) (by omega) hr
 obtain ⟨ho, hF⟩ := hx
 have HI : Hid (∀ W i vb, Below w.heap.size w W → i ≤ xs.length → W.heap[vb]? = some (.cells (mrkC m).toArray 89 (0, 0)) → w.heap.size ≤ vb → Calls Tryz.prog 110 #[x, .int .i64 i, .slice (some ⟨vb, 0, none⟩) 1 1] W (InsM base x (xs.take i ++ [m] ++ xs.drop i) W)) := fun W i vb hW hi hv hl => insertM_any base x i vb xs m W (owns_below ho hW) hi (by omega) (Nat.le_trans hbase hW.size) hv (fun e => by have := (ho.lt _ e).2; omega)
 have HQ : Hid (∀ i, i ≤ xs.length → (∀ k, k < i → (xs.getD k default).con < m.con) → (∀ k, i ≤ k → k < xs.length → m.con ≤ (xs.getD k default).con) → putM xs m = xs.take i ++ [m] ++ xs.drop i) := fun i hi h1 h2 => by
  unfold putM
  rw [posM_eq hi h1 (fun h => by have := h2 i (Nat.le_refl _) h; omega)]
 have HF : Hid (F = fun b => x.ownBlock = some b) := hF
 obtain ⟨ax, cx, rfl⟩ := owns_form ho
 clear ho hF hr
 obtain ⟨n, hn'⟩ : ∃ n, n = xs.length := ⟨_, rfl⟩
 rw [← hn'] at HP HI HQ HF hn ⊢
 have HN : Hid (xs.length = n) := hn'.symm
 clear hn'
 go_enter Tryz.func77, Tryz.ntmps77
 go_wp2_with fail
 refine (HP.out _ (qBq)).mono ?_
 rintro e w1 ⟨i, hi, rfl, p1, p2, hb1⟩
 have HE : Hid (putM xs m = xs.take i ++ [m] ++ xs.drop i) := HQ.out i (by rw [← HN.out]; exact hi) p1 (by rw [HN.out] at p2; exact p2)
 have hi' : i ≤ n := by rw [← HN.out]; exact hi
 have hB1 : Below w.heap.size w w1 := bS (qBq) hb1
 have x0 : w1.cell? ⟨w.heap.size, 0, none⟩ = some (.int .i64 m.con) := cK hb1 (by simp [go_sem])
 have x1 : w1.cell? ⟨w.heap.size, 1, none⟩ = some (.int .i64 m.val) := cK hb1 (by simp [go_sem])
 have hz1 := hB1.size
 generalize decide (i < xs.length ∧ (xs.getD i default).con = m.con) = fd at *
 clear HP HQ p1 p2 hb1 hi
 go_wp2_with fail
 refine (HI.out _ i w1.heap.size (qBq) hi' (World.alloc_heap_new w1 _) hz1).mono ?_
 rintro e w2 ⟨v2, rfl, o2, m2, l2⟩
 go_wp2
 go_ret
 refine ⟨_, _, rfl, ⟨?_, rfl⟩, ?_, fun b hb => ?_⟩
 ·
  rw [HE.out]; exact o2
 ·
  rw [HF.out]; exact (Mod.of_below (qBq)).trans m2
 ·
  rw [HF.out]
  exact (l2 b hb).imp id (fun h => by have := h.1; simp at this; omega)
set_option maxRecDepth 20000 in
set_option maxHeartbeats 4000000 in
theorem voting_u (x : Value) (d : Shd) (k v : Int) (base : Nat) (F : Nat → Prop) (w : World) (hx : shdR.O w base F x d) (hbase : base ≤ w.heap.size) (hn : d.votes.length ≤ 1000) (hr : ∀ i j, i < j → j < d.votes.length → (d.votes.getD i default).con < (d.votes.getD j default).con) :
  Calls Tryz.prog 39 #[x, .int .i64 k, .int .i64 v] w fun e w' => ∃ u F', e = .returned u ∧ shdRR.O w' base F' u ⟨0, v, ⟨d.idx, d.bals, putM d.votes ⟨k, v⟩, d.held, d.done, d.appl⟩⟩ ∧ Below base w w' ∧ ∀ b, F' b → F b ∨ w.heap.size ≤ b := by
 obtain ⟨a1, a2, a3, a4, a5, c1, c2, c3, c4, c5, rfl⟩ := shd_formO hx
 have HR : Hid (∀ b, F b → base ≤ b ∧ b < w.heap.size) := fun b hb => shdR.rng hx b hb
 have HX : Hid (shdR.O w base F (.agg #[.int .i64 d.idx, .slice a1 d.bals.length c1, .slice a2 d.votes.length c2, .slice a3 d.held.length c3, .slice a4 d.done.length c4, .slice a5 d.appl.length c5]) d) := hx
 have HW : Hid (∀ W Fj, Below w.heap.size w W → mrksR.O W base Fj (.slice a2 d.votes.length c2) d.votes → Calls Tryz.prog 77 #[.slice a2 d.votes.length c2, .agg #[.int .i64 k, .int .i64 v]] W fun e w' => ∃ u F', e = .returned u ∧ mrksR.O w' base F' u (putM d.votes ⟨k, v⟩) ∧ Mod Fj W w' ∧ ∀ b, F' b → Fj b ∨ W.heap.size ≤ b) := fun W Fj hW ho => withMark_u _ d.votes ⟨k, v⟩ base Fj W ho (Nat.le_trans hbase hW.size) hn hr
 clear hx hr
 generalize d.bals.length = n1 at *
 generalize d.votes.length = n2 at *
 generalize d.held.length = n3 at *
 generalize d.done.length = n4 at *
 generalize d.appl.length = n5 at *
 obtain ⟨wq, hwq⟩ : ∃ wq, wq = (w.alloc (.cells #[.int .i64 d.idx, .slice a1 n1 c1, .slice a2 n2 c2, .slice a3 n3 c3, .slice a4 n4 c4, .slice a5 n5 c5] 37)).alloc (.cells #[.int .i64 0, .int .i64 0, .int .i64 0, .slice none 0 0, .slice none 0 0, .slice none 0 0, .slice none 0 0, .slice none 0 0] 39) := ⟨_, rfl⟩
 have hBq : Below w.heap.size w wq := by rw [hwq]; (repeat (first | exact bR _ _ | assumption | refine bD ?_ | refine bA ?_ _ | refine bset ?_ (by simp; omega) _ | refine bset ?_ (by simp) _ | refine bS ?_ (by assumption)))
 obtain ⟨F2, o2, hF2, LN⟩ := shd_votes (shdR.keep HX.out hBq)
 have HLN : Hid (∀ (w' : World) (Fj' : Nat → Prop) (v : Value) (ys : List Mrk), mrksR.O w' base Fj' v ys → Mod F2 wq w' → (∀ b, Fj' b → F2 b ∨ wq.heap.size ≤ b) → ∃ F', shdR.O w' base F' (.agg #[.int .i64 d.idx, .slice a1 n1 c1, v, .slice a3 n3 c3, .slice a4 n4 c4, .slice a5 n5 c5]) ⟨d.idx, d.bals, ys, d.held, d.done, d.appl⟩ ∧ ∀ b, F' b → F b ∨ wq.heap.size ≤ b) := LN
 have HF2 : Hid (∀ b, F2 b → base ≤ b ∧ b < w.heap.size) := fun b hb => HR.out b (hF2 b hb)
 have HO2 : Hid (mrksR.O wq base F2 (.slice a2 n2 c2) d.votes) := o2
 have zq : wq.heap.size = w.heap.size + 2 := by rw [hwq]; simp
 have HZ : Hid (wq.heap.size = w.heap.size + 2) := zq
 have y0 : wq.cell? ⟨w.heap.size, 0, none⟩ = some (.int .i64 d.idx) := by rw [hwq]; simp [go_sem]
 have y1 : wq.cell? ⟨w.heap.size, 1, none⟩ = some (.slice a1 n1 c1) := by rw [hwq]; simp [go_sem]
 have y2 : wq.cell? ⟨w.heap.size, 2, none⟩ = some (.slice a2 n2 c2) := by rw [hwq]; simp [go_sem]
 have y3 : wq.cell? ⟨w.heap.size, 3, none⟩ = some (.slice a3 n3 c3) := by rw [hwq]; simp [go_sem]
 have y4 : wq.cell? ⟨w.heap.size, 4, none⟩ = some (.slice a4 n4 c4) := by rw [hwq]; simp [go_sem]
 have y5 : wq.cell? ⟨w.heap.size, 5, none⟩ = some (.slice a5 n5 c5) := by rw [hwq]; simp [go_sem]
 have r0 : wq.cell? ⟨w.heap.size + 1, 0, none⟩ = some (.int .i64 0) := by rw [hwq]; simp [go_sem]
 have r1 : wq.cell? ⟨w.heap.size + 1, 1, none⟩ = some (.int .i64 0) := by rw [hwq]; simp [go_sem]
 have r2 : wq.cell? ⟨w.heap.size + 1, 2, none⟩ = some (.int .i64 0) := by rw [hwq]; simp [go_sem]
 have r3 : wq.cell? ⟨w.heap.size + 1, 3, none⟩ = some (.slice none 0 0) := by rw [hwq]; simp [go_sem]
 have r4 : wq.cell? ⟨w.heap.size + 1, 4, none⟩ = some (.slice none 0 0) := by rw [hwq]; simp [go_sem]
 have r5 : wq.cell? ⟨w.heap.size + 1, 5, none⟩ = some (.slice none 0 0) := by rw [hwq]; simp [go_sem]
 have r6 : wq.cell? ⟨w.heap.size + 1, 6, none⟩ = some (.slice none 0 0) := by rw [hwq]; simp [go_sem]
 have r7 : wq.cell? ⟨w.heap.size + 1, 7, none⟩ = some (.slice none 0 0) := by rw [hwq]; simp [go_sem]
 have yf : ∀ o, wq.frozen? ⟨w.heap.size, o, none⟩ = false := fun o => by rw [hwq]; simp [go_sem]
 have rf : ∀ o, wq.frozen? ⟨w.heap.size + 1, o, none⟩ = false := fun o => by rw [hwq]; simp [go_sem]
 clear LN o2 hF2 HX zq
 go_enter Tryz.func39, Tryz.ntmps39
 go_wp2_with fail
 rw [← hwq]
 clear hwq
 refine (HW.out _ F2 hBq HO2.out).mono ?_
 rintro e w1 ⟨v2, F2', rfl, o1, m1, l1⟩
 have nA : ¬ F2 w.heap.size := fun h => by have := (HF2.out _ h).2; omega
 have nB : ¬ F2 (w.heap.size + 1) := fun h => by have := (HF2.out _ h).2; omega
 replace y0 := m1.cell y0 nA
 replace y1 := m1.cell y1 nA
 replace y2 := m1.cell y2 nA
 replace y3 := m1.cell y3 nA
 replace y4 := m1.cell y4 nA
 replace y5 := m1.cell y5 nA
 replace r0 := m1.cell r0 nB
 replace r1 := m1.cell r1 nB
 replace r2 := m1.cell r2 nB
 replace r3 := m1.cell r3 nB
 replace r4 := m1.cell r4 nB
 replace r5 := m1.cell r5 nB
 replace r6 := m1.cell r6 nB
 replace r7 := m1.cell r7 nB
 replace yf : ∀ o, w1.frozen? ⟨w.heap.size, o, none⟩ = false := fun o => (m1.frz10 (a := ⟨w.heap.size, o, none⟩) (by have := HZ.out; dsimp only; omega) nA).trans (yf o)
 replace rf : ∀ o, w1.frozen? ⟨w.heap.size + 1, o, none⟩ = false := fun o => (m1.frz10 (a := ⟨w.heap.size + 1, o, none⟩) (by have := HZ.out; dsimp only; omega) nB).trans (rf o)
 obtain ⟨q2, s2, rfl⟩ := owns_form o1.1
 obtain ⟨F', o', hF'⟩ := HLN.out w1 F2' _ _ o1 m1 l1
 have HO' : Hid (shdRR.O w1 base F' (.agg #[.int .i64 0, .int .i64 v, .int .i64 d.idx, .slice a1 n1 c1, .slice q2 (putM d.votes ⟨k, v⟩).length s2, .slice a3 n3 c3, .slice a4 n4 c4, .slice a5 n5 c5]) ⟨0, v, ⟨d.idx, d.bals, putM d.votes ⟨k, v⟩, d.held, d.done, d.appl⟩⟩) := shdR_of (d := ⟨d.idx, d.bals, putM d.votes ⟨k, v⟩, d.held, d.done, d.appl⟩) 0 v o'
 have HF' : Hid (∀ b, F' b → F b ∨ wq.heap.size ≤ b) := hF'
 have hB1 : Below base w w1 := m1.below (hBq.mono hbase) (by have := hBq.size; omega) (fun b hb => (HF2.out b hb).1)
 have hB1w : Mod (fun b => base ≤ b ∧ b < w.heap.size) w w1 := (Mod.of_below hBq).trans (m1.mono (fun b hb => HF2.out b hb))
 clear o1 m1 l1 o' hF' HLN HO2 HW nA nB
 generalize (putM d.votes ⟨k, v⟩).length = np at *
 go_wp2
 refine bodyPost_ret (v := .agg #[.int .i64 0, .int .i64 v, .int .i64 d.idx, .slice a1 n1 c1, .slice q2 np s2, .slice a3 n3 c3, .slice a4 n4 c4, .slice a5 n5 c5]) (by simp [results, Tryz.results39, go_sem, r0, r1, r2, r3, r4, r5, r6, r7, rf]) rfl ⟨_, F', rfl, ?_, ?_, fun b hb => (HF'.out b hb).imp id (fun h => by have := HZ.out; omega)⟩
 ·
  refine setR8 shdRR (setR1 shdRR HO'.out ?_ _) ?_ _ _ _ _ _ _ _ _
  ·
   exact fun h => by
    rcases HF'.out _ h with h | h
    ·
     have := (HR.out _ h).2; omega
    ·
     have := HZ.out; omega
  ·
   exact fun h => by
    rcases HF'.out _ h with h | h
    ·
     have := (HR.out _ h).2; omega
    ·
     have := HZ.out; omega
 ·
  have e0 : base ≤ w.heap.size := hbase
  have e1 : base ≤ w.heap.size + 1 := by omega
  exact ((((((((hB1.setCell (p := ⟨w.heap.size, 2, none⟩) e0 _).setCell (p := ⟨w.heap.size + 1, 0, none⟩) e1 _).setCell (p := ⟨w.heap.size + 1, 1, none⟩) e1 _).setCell (p := ⟨w.heap.size + 1, 2, none⟩) e1 _).setCell (p := ⟨w.heap.size + 1, 3, none⟩) e1 _).setCell (p := ⟨w.heap.size + 1, 4, none⟩) e1 _).setCell (p := ⟨w.heap.size + 1, 5, none⟩) e1 _).setCell (p := ⟨w.heap.size + 1, 6, none⟩) e1 _).setCell (p := ⟨w.heap.size + 1, 7, none⟩) e1 _
end Go.Proofs.YtndghenlapbaaaaGreat

/-
 slices.Insert of one slot into slots that own their memory.
-/
namespace Go.Proofs.YtndghenlapbaaaaGreat
open Go.RowKit Go.Shelf
variable [DecidableEq Leg] [Inhabited Leg] [DecidableEq Cont] [Inhabited Cont] [DecidableEq Bal] [Inhabited Bal] [DecidableEq Ledg] [Inhabited Ledg]

theorem run_copyC (w : World) (dT sT ty elem : TypeId) (sz g o dLen dCap : Nat) (a : Addr) (sLen sCap m : Nat) (cur : Array Value) (t : TypeId) (cs : List Value)
  (hu : Tryz.prog.underlying dT = some (.slice elem)) (hs : (Tryz.prog.info? elem).map (·.size) = some sz)
  (hg : w.heap[g]? = some (.cells cur t (0, 0))) (hm : Nat.min sLen dLen = m) (hn : cs.length = m * sz)
  (hsrc : ∀ j v, cs[j]? = some v → w.cell? (a.add j) = some v) (hfit : o + cs.length ≤ cur.size) (h1 : ∀ v ∈ cs, v.oneCell' = true) :
  (Builtin.copy_ #[dT, sT] ty #[.slice (some ⟨g, o, none⟩) dLen dCap, .slice (some a) sLen sCap]).run Tryz.prog w =
   .ok (goInt m) (w.setRow g (cur.toList.take o ++ cs ++ cur.toList.drop (o + cs.length)).toArray) := by
 have hl := run_loadCells_list (P := Tryz.prog) w a cs hsrc
 have hst := run_storeCells_at Tryz.prog g o t cs 0 cur w hg (by simpa using hfit) h1
 cases hq : Tryz.prog.info? elem with
 | none => simp [hq] at hs
 | some i =>
  have hi : i.size = sz := by simpa [hq] using hs
  rw [hn] at hl
  simp [Builtin.copy_, run_underlying hu, Builtin.lenOf, Builtin.firstCells, sizeOf, typeInfo, hq, hi, hm, hl, hst]
theorem wpl_copyC (w : World) {ops : Array Oper} {rest : List Oper} {o : Oper} {a : Act} {Q : Exit → Act → World → Prop} (hgd : o.guard = none) (d s : Operand) (t t' : TypeId)
  (ho : o.op = .call { callee := .builtin .copy, args := #[d, s], argTypes := #[t, t'] }) (v u : Value) (hd : a.eval d = v) (hs : a.eval s = u) {v' : Value} {w' : World}
  (hr : (Builtin.copy_ #[t, t'] o.type #[v, u]).run Tryz.prog w = .ok v' w') (h : wpList Tryz.prog ops Q rest (a.put o.dst v') w') : wpList Tryz.prog ops Q (o :: rest) a w := by
 refine wpList_plain hgd fun K hK => ?_
 unfold Oper.wp execOp
 simp only [ho, resolve, invoke, builtin, Sem.run_bind, Sem.run_pure, Result.andThen_ok, List.map_toArray, List.map_cons, List.map_nil, hd, hs, hr]
 exact hK _ _ h
theorem step_copyC {ops : Array Oper} {o : Oper} {a : Act} {w : World} {K : Act → World → Prop} {Q : Exit → Act → World → Prop} {E : Prop} (hgd : o.guard = none) (d s : Operand) (t t' : TypeId)
  (ho : o.op = .call { callee := .builtin .copy, args := #[d, s], argTypes := #[t, t'] }) (v u : Value) (hd : a.eval d = v) (hs : a.eval s = u) {v' : Value} {w' : World}
  (hr : (Builtin.copy_ #[t, t'] o.type #[v, u]).run Tryz.prog w = .ok v' w') (hK : K (a.put o.dst v') w') :
  if Region.wanted o (yielded ops a.tmps) = true then Oper.wp Tryz.prog o a w K Q else E := by
 have hw : Region.wanted o (yielded ops a.tmps) = true := by simp [Region.wanted, hgd]
 rw [if_pos hw]
 unfold Oper.wp execOp
 simp only [ho, resolve, invoke, builtin, Sem.run_bind, Sem.run_pure, Result.andThen_ok, List.map_toArray, List.map_cons, List.map_nil, hd, hs, hr]
 exact hK
theorem mod_setRowC (w : World) (g : Nat) (cs : Array Value) : Mod (fun b => b = g) w (w.setRow g cs) :=
 ⟨rfl, rfl, rfl, by simp [World.setRow], fun k _ hn => setRow_other w g k cs hn⟩
theorem addr_addC (b o j : Nat) : (⟨b, o, none⟩ : Addr).add j = ⟨b, o + j, none⟩ := by
 by_cases hj0 : j = 0
 ·
  subst hj0; simp [Addr.add]
 ·
  simp [Addr.add, hj0]
theorem cell_rowC {w : World} {g j : Nat} {cur : Array Value} {t : TypeId} {fr : Nat × Nat} {v : Value} (hg : w.heap[g]? = some (.cells cur t fr)) (h : cur.toList[j]? = some v) : w.cell? ⟨g, j, none⟩ = some v := by
 have : cur[j]? = some v := by rw [← Array.getElem?_toList]; exact h
 simp [World.cell?, hg, this]
theorem heap_newC (w : World) (o : Obj) : (w.alloc o).heap[w.heap.size]? = some o := by
 show (w.heap.push o)[w.heap.size]? = some o
 simp [Array.getElem?_push]
theorem shift_rowC {cur cs vs : List Value} {k m : Nat} (hk : k ≤ cs.length) (hc : cur.take cs.length = cs) (hl : cs.length + m ≤ cur.length) (hv : vs.length = m) :
  ((((cur.take (k + m) ++ cs.drop k ++ cur.drop (k + m + (cs.drop k).length)).take k ++ vs ++ (cur.take (k + m) ++ cs.drop k ++ cur.drop (k + m + (cs.drop k).length)).drop (k + vs.length)).length = cur.length) ∧
  ((cur.take (k + m) ++ cs.drop k ++ cur.drop (k + m + (cs.drop k).length)).take k ++ vs ++ (cur.take (k + m) ++ cs.drop k ++ cur.drop (k + m + (cs.drop k).length)).drop (k + vs.length)).take (cs.length + m) = cs.take k ++ vs ++ cs.drop k) := by
 subst hv
 have h1 : (cur.take (k + vs.length) ++ cs.drop k ++ cur.drop (k + vs.length + (cs.drop k).length)).take k = cs.take k := by
  rw [List.append_assoc, List.take_append_of_le_length (by rw [List.length_take]; omega), List.take_take]
  conv => rhs; rw [← hc, List.take_take]
  congr 1
  omega
 have h2 : (cur.take (k + vs.length) ++ cs.drop k ++ cur.drop (k + vs.length + (cs.drop k).length)).drop (k + vs.length) = cs.drop k ++ cur.drop (k + vs.length + (cs.drop k).length) := by
  rw [List.append_assoc, List.drop_append_of_le_length (by rw [List.length_take]; omega), List.drop_take]
  simp
 rw [h1, h2]
 have hd : (cs.drop k).length = cs.length - k := List.length_drop ..
 constructor
 ·
  simp only [List.length_append, List.length_take, List.length_drop]
  omega
 ·
  rw [← List.append_assoc, List.take_append_of_le_length (by simp only [List.length_append, List.length_take, List.length_drop]; omega), List.take_of_length_le (by simp only [List.length_append, List.length_take, List.length_drop]; omega)]
set_option maxHeartbeats 4000000 in
set_option maxRecDepth 100000 in
theorem insertC_shift (g n c i vb : Nat) (cs vs : List Value) (cur : Array Value) (w : World) (hg : w.heap[g]? = some (.cells cur 44 (0, 0))) (hi : i < n) (hroom : n + 1 ≤ c) (hc63 : c ≤ 9223372036854775807) (hvb : vb ≠ g)
  (hcur : cur.size = c * 2) (hcl : cs.length = n * 2) (ht : cur.toList.take (n * 2) = cs) (hvl : vs.length = 2) (hv : w.heap[vb]? = some (.cells vs.toArray 44 (0, 0))) (h1c : ∀ v ∈ cs, v.oneCell' = true) (h1v : ∀ v ∈ vs, v.oneCell' = true) :
  Calls Tryz.prog 83 #[.slice (some ⟨g, 0, none⟩) n c, .int .i64 i, .slice (some ⟨vb, 0, none⟩) 1 1] w fun e w' =>
   e = .returned (.slice (some ⟨g, 0, none⟩) (n + 1) c) ∧ ∃ cur' : Array Value, w'.heap[g]? = some (.cells cur' 44 (0, 0)) ∧ cur'.size = c * 2 ∧ cur'.toList.take ((n + 1) * 2) = cs.take (i * 2) ++ vs ++ cs.drop (i * 2) ∧ Mod (fun b => b = g) w w' := by
 have hz2 : ¬ ((i : Int) = (n : Int)) := by omega
 have hsz : (Tryz.prog.info? 44).map (·.size) = some 2 := by
  obtain ⟨i0, hi0, _, h1, _⟩ := info_parts infoConts
  rw [hi0]; simp [h1]
 have hzz : ∀ w, (Go.sizeOf 44).run Tryz.prog w = .ok 2 w := fun w => by
  obtain ⟨i0, hi0, _, h1, _⟩ := info_parts infoConts
  simp [sizeOf, typeInfo, hi0, h1]
 have hov : ∀ lb cb, (callFunc 115 #[.slice (some ⟨vb, 0, none⟩) 1 1, .slice (some ⟨g, (i + 1) * 2, none⟩) lb cb]).run Tryz.prog w = .ok (.value (.bool false)) w := fun lb cb => by
  rw [run_callFunc_extern Tryz.func115 (by kernel_rfl) (by kernel_rfl) (by kernel_rfl) (e := Extern.SlicesOverlaps.overlaps #[35, 35] #[4]) (by kernel_rfl),
   Lib.run_overlaps_apart w 35 4 44 Tryz.underlying35 2 hzz ⟨vb, 0, none⟩ ⟨g, (i + 1) * 2, none⟩ 1 1 lb cb hvb 44 44 2 (c * 2) (by simp [World.shape?, hv, hvl]) (by simp [World.shape?, hg, hcur]) (by omega) (by simp [World.frozen?, hv]) (by simp [World.frozen?, hv])]
  rfl
 have hdl : (cs.drop (i * 2)).length = (n - i) * 2 := by rw [List.length_drop, hcl]; omega
 have hb1 : (0 : Int) ≤ (i : Int) + 1 := by omega
 have hw1 : IntKind.i64.wrap ((i : Int) + 1) = (i : Int) + 1 := by rw [IntKind.wrap_i64]; omega
 have htn : ((i : Int) + 1).toNat = i + 1 := by omega
 have hin : i ≤ n := by omega
 have hb2 : ¬ (c = i + 1) := by omega
 have hb3 : (i : Int) ≤ (n : Int) + 1 := by omega
 have hb4 : ¬ (c = i) := by omega
 obtain ⟨A1, hA1⟩ : ∃ A1 : Array Value, A1 = (cur.toList.take ((i + 1) * 2) ++ cs.drop (i * 2) ++ cur.toList.drop ((i + 1) * 2 + (cs.drop (i * 2)).length)).toArray := ⟨_, rfl⟩
 have hcp1 : ∀ ty dl dc sl sc, dl = n - i → sl = n + 1 - i → (Builtin.copy_ #[35, 35] ty #[.slice (some ⟨g, (i + 1) * 2, none⟩) dl dc, .slice (some ⟨g, i * 2, none⟩) sl sc]).run Tryz.prog w.drew = .ok (goInt ((n - i : Nat) : Int)) (w.drew.setRow g A1) := fun ty dl dc sl sc e1 e2 => by
  rw [hA1]
  refine run_copyC w.drew _ _ ty 44 2 g ((i + 1) * 2) dl dc ⟨g, i * 2, none⟩ sl sc (n - i) cur 44 (cs.drop (i * 2)) Tryz.underlying35 hsz hg (by simp only [Nat.min_def]; split <;> omega) hdl (fun j v hj => ?_) (by rw [hdl, hcur]; omega) (fun v hv => h1c v (List.mem_of_mem_drop hv))
  rw [addr_addC]
  refine cell_rowC hg ?_
  rw [List.getElem?_drop, ← ht, List.getElem?_take] at hj
  split at hj
  ·
   exact hj
  ·
   cases hj
 have hA1s : A1.size = c * 2 := by
  rw [hA1]
  simp only [List.size_toArray, List.length_append, List.length_take, List.length_drop, Array.length_toList]
  rw [hcl]
  omega
 have hg1 : (w.drew.setRow g A1).heap[g]? = some (.cells A1 44 (0, 0)) := setRow_heap w.drew g cur A1 _ _ hg
 have hv1 : (w.drew.setRow g A1).heap[vb]? = some (.cells vs.toArray 44 (0, 0)) := (setRow_other w.drew g vb A1 hvb).trans hv
 obtain ⟨W1, hW1⟩ : ∃ W1, W1 = w.drew.setRow g A1 := ⟨_, rfl⟩
 rw [← hW1] at hg1 hv1 hcp1
 have hm1 : Mod (fun b => b = g) w W1 := by
  rw [hW1]
  exact (Mod.of_below (Below.drew (Below.refl _ _))).trans (mod_setRowC _ _ _)
 obtain ⟨A2, hA2⟩ : ∃ A2 : Array Value, A2 = (A1.toList.take (i * 2) ++ vs ++ A1.toList.drop (i * 2 + vs.length)).toArray := ⟨_, rfl⟩
 have hcp2 : ∀ (W : World), W.heap[g]? = some (.cells A1 44 (0, 0)) → W.heap[vb]? = some (.cells vs.toArray 44 (0, 0)) → ∀ ty dc, (Builtin.copy_ #[35, 35] ty #[.slice (some ⟨g, i * 2, none⟩) (n + 1 - i) dc, .slice (some ⟨vb, 0, none⟩) 1 1]).run Tryz.prog W = .ok (goInt 1) (W.setRow g A2) := fun W hW1 hW2 ty dc => by
  rw [hA2]
  refine run_copyC W _ _ ty 44 2 g (i * 2) (n + 1 - i) dc ⟨vb, 0, none⟩ 1 1 1 A1 44 vs Tryz.underlying35 hsz hW1 (by simp only [Nat.min_def]; split <;> omega) (by omega) (fun j v hj => ?_) (by rw [hvl, hA1s]; omega) h1v
  rw [addr_addC]
  exact cell_rowC hW2 (by simpa using hj)
 have hfin : A2.size = c * 2 ∧ A2.toList.take ((n + 1) * 2) = cs.take (i * 2) ++ vs ++ cs.drop (i * 2) := by
  have h := shift_rowC (cur := cur.toList) (cs := cs) (vs := vs) (k := i * 2) (m := 2) (by rw [hcl]; omega) (by rw [hcl]; exact ht) (by rw [hcl, Array.length_toList, hcur]; omega) hvl
  rw [hA2, hA1]
  rw [show (i + 1) * 2 = i * 2 + 2 by omega, show (n + 1) * 2 = cs.length + 2 by rw [hcl]; omega]
  refine ⟨?_, h.2⟩
  rw [List.size_toArray]
  have h1 := h.1
  have h2 : cur.toList.length = c * 2 := by rw [Array.length_toList, hcur]
  rw [h2] at h1
  exact h1
 clear hA1 hA2 hW1
 have HF : Hid (A2.size = c * 2 ∧ A2.toList.take ((n + 1) * 2) = cs.take (i * 2) ++ vs ++ cs.drop (i * 2)) := hfin
 clear hfin
 go_enter Tryz.func83, Tryz.ntmps83
 go_wp2_with (simp only [hov])
 go_region_law (refine step_copyC rfl (.tmp 73) (.tmp 76) 35 35 rfl _ _ (by simp [Act.eval, Act.put]) (by simp [Act.eval, Act.put]) (hcp1 _ _ _ _ _ (by omega) (by omega)) ?_)
 go_wp2_with (at_builtin; refine wpl_copyC _ rfl _ _ 35 35 rfl _ _ rfl rfl (hcp2 _ hg1 hv1 _ _) ?_)
 go_ret
 refine ⟨rfl, A2, setRow_heap _ g A1 A2 _ _ hg1, HF.out.1, HF.out.2, hm1.trans (mod_setRowC _ _ _)⟩
end Go.Proofs.YtndghenlapbaaaaGreat

/-
 slices.Insert at the end.
-/
namespace Go.Proofs.YtndghenlapbaaaaGreat
open Go.RowKit Go.Shelf
variable [DecidableEq Leg] [Inhabited Leg] [DecidableEq Cont] [Inhabited Cont] [DecidableEq Bal] [Inhabited Bal] [DecidableEq Ledg] [Inhabited Ledg]

set_option maxHeartbeats 4000000 in
set_option maxRecDepth 100000 in
theorem insertC_end (base : Nat) (v : Value) (n vb : Nat) (cs vs : List Value) (w : World) (hown : w.ownsRow base 44 2 v n cs) (hn : n ≤ 1048576) (hbase : base ≤ w.heap.size)
  (hvl : vs.length = 2) (hv : w.heap[vb]? = some (.cells vs.toArray 44 (0, 0))) (h1v : ∀ v ∈ vs, v.oneCell' = true) :
  Calls Tryz.prog 83 #[v, .int .i64 n, .slice (some ⟨vb, 0, none⟩) 1 1] w fun e w' =>
   ∃ v', e = .returned v' ∧ w'.ownsRow base 44 2 v' (n + 1) (cs ++ vs) ∧ w.grownBy w' v.ownBlock ∧ (v'.ownBlock = v.ownBlock ∨ v'.ownBlock = some w.heap.size) := by
 obtain ⟨i0, hi, hz0, hz1, hz2⟩ := info_parts infoConts
 have HV : Hid (∀ j u, vs[j]? = some u → w.cell? ((⟨vb, 0, none⟩ : Addr).add j) = some u) := fun j u hj => by
  rw [addr_addC]
  exact cell_rowC hv (by simpa using hj)
 obtain ⟨a, c, rfl⟩ := owns_form hown
 have hnc : n ≤ c := by
  rcases hown.2 with ⟨_, h⟩ | ⟨g, cap, cur, h, _, _, h2, _⟩
  ·
   omega
  ·
   simp only [Value.slice.injEq] at h; omega
 have hcm : c ≤ 9223372036854775807 := by
  rcases hown.2 with ⟨h, _⟩ | ⟨g, cap, cur, h, _, _, h2, h3, _⟩
  ·
   simp only [Value.slice.injEq] at h; omega
  ·
   simp only [Value.slice.injEq] at h; unfold maxLen at h3; omega
 rcases Nat.eq_or_lt_of_le hnc with rfl | h0
 all_goals
  try (have hck : ¬ c = n := by omega)
  go_enter Tryz.func83, Tryz.ntmps83
  go_wp2_with (at_builtin; refine wpList_append_own_at w rfl (.tmp 23) (.tmp 24) 35 rfl base 44 i0 _ 2 32 Tryz.underlying35 hi hz0 hz1 hz2 rfl (by decide) _ n cs rfl hown ⟨vb, 0, none⟩ 1 1 vs rfl hvl HV.out h1v ?_ ?_ hbase ?_)
  ·
   unfold maxLen; omega
  ·
   omega
  intro v' w' h1 h2 h3 h4
  obtain ⟨a', c', rfl⟩ := owns_form h1
  go_wp2
  go_ret
  exact ⟨_, rfl, h1, h2, h4⟩
end Go.Proofs.YtndghenlapbaaaaGreat

