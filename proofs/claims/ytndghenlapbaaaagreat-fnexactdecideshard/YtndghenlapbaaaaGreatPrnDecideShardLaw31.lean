import Derived.Test.YtndghenlapbaaaaGreatPrnDecideShardLaw30
import Derived.BigQuiet
import Derived.Deep.QuietTactic
import Derived.Deep.RegionHeld3
import Derived.Test.YtndghenlapbaaaaGreatPrnDecideShardLaw19
import Derived.Test.YtndghenlapbaaaaGreatPrnDecideShardLaw28
import Derived.Test.YtndghenlapbaaaaGreatPrnDecideShardLaw29
import Derived.Test.YtndghenlapbaaaaGreatPrnDecideShardLaw2
set_option linter.unusedSimpArgs false
set_option linter.unusedVariables false
set_option linter.unusedSectionVars false

/-
 DecideShard, the program's.
-/
namespace Go.Proofs.YtndghenlapbaaaaGreat
open Go.RowKit
variable [DecidableEq Rw] [Inhabited Rw] [DecidableEq Bal] [Inhabited Bal] [DecidableEq Ledg] [Inhabited Ledg] [DecidableEq Leg] [Inhabited Leg] [DecidableEq Cont] [Inhabited Cont] [DecidableEq LedgR] [Inhabited LedgR] [DecidableEq OutcR] [Inhabited OutcR] [DecidableEq Mrk] [Inhabited Mrk] [DecidableEq Shd] [Inhabited Shd] [DecidableEq ShdR] [Inhabited ShdR]
attribute [local go_sem ↓] Go.wp_at_zero Go.wp_at_succ

theorem decideD_bad {d : Shd} {k o : Int} (h : ¬ shdF d = 0) : decideD d k o = errH (shdF d) := by unfold decideD; rw [if_neg h]
theorem decideD_range {d : Shd} {k o : Int} (h : shdF d = 0) (h1 : (inB k 1 1000000000 && inB o 1 2) = false) : decideD d k o = errH 3 := by unfold decideD; rw [if_pos h, if_neg (by rw [h1]; exact Bool.false_ne_true)]
theorem decideD_ok {d : Shd} {k o : Int} (h : shdF d = 0) (h1 : (inB k 1 1000000000 && inB o 1 2) = true) : decideD d k o = toldH d k o := by unfold decideD; rw [if_pos h, if_pos h1]
theorem toldH_same {d : Shd} {k o : Int} (h : ¬ findM k d.done = 0) (h1 : findM k d.done = o) : toldH d k o = ⟨0, 0, d⟩ := by unfold toldH; rw [if_neg h, if_pos h1]
theorem toldH_other {d : Shd} {k o : Int} (h : ¬ findM k d.done = 0) (h1 : ¬ findM k d.done = o) : toldH d k o = errH 7 := by unfold toldH; rw [if_neg h, if_neg h1]
theorem toldH_form {d : Shd} {k o : Int} (h : findM k d.done = 0) (h1 : o = 1 ∧ heldIn d.held k = false) : toldH d k o = errH 1 := by unfold toldH; rw [if_pos h, if_pos h1]
theorem toldH_many {d : Shd} {k o : Int} (h : findM k d.done = 0) (h1 : ¬ (o = 1 ∧ heldIn d.held k = false)) (h2 : 100 ≤ d.done.length) : toldH d k o = errH 2 := by unfold toldH; rw [if_pos h, if_neg h1, if_pos h2]
theorem toldH_ok {d : Shd} {k o : Int} (h : findM k d.done = 0) (h1 : ¬ (o = 1 ∧ heldIn d.held k = false)) (h2 : ¬ 100 ≤ d.done.length) : toldH d k o = ⟨0, 0, decS d k o⟩ := by unfold toldH; rw [if_pos h, if_neg h1, if_neg h2]
set_option maxRecDepth 20000 in
set_option maxHeartbeats 8000000 in
theorem implDecide_u (x : Value) (d : Shd) (k o : Int) (w : World) (hx : shdR.V w x d) :
  Calls Tryz.prog 19 #[x, .int .i64 k, .int .i64 o] w (VoteE w (decideD d k o)) := by
 have HSf : Hid (∀ W, Below w.heap.size w W → Calls Tryz.prog 55 #[x] W fun e w' => e = .returned (.int .i64 (shdF d)) ∧ Below W.heap.size W w') := fun W hW => implShdF_any x d W (shdR.below hx hW)
 have HIs : Hid (∀ W, Below w.heap.size w W → ShdOk d → Calls Tryz.prog 58 #[x, .int .i64 k] W fun e w' => e = .returned (.bool (heldIn d.held k)) ∧ Below W.heap.size W w') := fun W hW hok => isHeld_any x d k W (shdR.below hx hW) (by have := hok.ls.nh; omega) hok.held.rise
 have HCp : Hid (∀ W, Below w.heap.size w W → ShdOk d → Calls Tryz.prog 36 #[x] W fun e w' => ∃ v F, e = .returned v ∧ shdR.O w' W.heap.size F v d ∧ Below W.heap.size W w') := fun W hW hok => copiedShd_u x d W (shdR.below hx hW) ⟨by have := bals_len (base_idx hok.base).2; omega, by have := hok.ls.nv; omega, by have := hok.ls.nh; omega, by have := hok.ls.nd; omega, by have := hok.ls.na; omega⟩ (fun q hq => by have := hok.held.len hq; omega)
 have HDe : Hid (∀ W base F v, shdR.O W base F v d → base ≤ W.heap.size → ShdOk d → (o = 1 ∨ o = 2) → (o = 1 → heldIn d.held k = true) → Calls Tryz.prog 59 #[v, .agg #[.int .i64 k, .int .i64 o]] W (DecE (decS d k o) base W)) := fun W base F v h1 h2 h3 h4 h5 => deciding_u v d k o base F W h1 h2 h3 h4 h5
 obtain ⟨u1, u2, u3, u4, u5, rfl, h1, h2, h3, h4, h5⟩ := hx
 have HVi : Hid (∀ W, Below w.heap.size w W → ShdOk d → Calls Tryz.prog 35 #[u4, .int .i64 k] W fun e w' => e = .returned (.int .i64 (findM k d.done)) ∧ Below W.heap.size W w') := fun W hW hok => valueIn_any u4 d.done k W (mrksR.below h4 hW) (by have := hok.ls.nd; omega) hok.ls.od.rise
 obtain ⟨a1, c1, rfl⟩ := bals_form h1
 obtain ⟨a2, c2, rfl⟩ := mrks_form h2
 obtain ⟨a3, c3, rfl⟩ := conts_form h3
 obtain ⟨a4, c4, rfl⟩ := mrks_form h4
 obtain ⟨a5, c5, rfl⟩ := ints_form h5
 clear h1 h2 h3 h4 h5
 have HE0 : Hid (¬ shdF d = 0 → decideD d k o = errH (shdF d)) := fun h => decideD_bad h
 have HE1 : Hid (shdF d = 0 → (inB k 1 1000000000 && inB o 1 2) = false → decideD d k o = errH 3) := fun h h1 => decideD_range h h1
 have HE2 : Hid (shdF d = 0 → (inB k 1 1000000000 && inB o 1 2) = true → decideD d k o = toldH d k o) := fun h h1 => decideD_ok h h1
 have HT0 : Hid (¬ findM k d.done = 0 → findM k d.done = o → toldH d k o = ⟨0, 0, d⟩) := fun h h1 => toldH_same h h1
 have HT1 : Hid (¬ findM k d.done = 0 → ¬ findM k d.done = o → toldH d k o = errH 7) := fun h h1 => toldH_other h h1
 have HT2 : Hid (findM k d.done = 0 → o = 1 ∧ heldIn d.held k = false → toldH d k o = errH 1) := fun h h1 => toldH_form h h1
 have HT3 : Hid (findM k d.done = 0 → ¬ (o = 1 ∧ heldIn d.held k = false) → 100 ≤ d.done.length → toldH d k o = errH 2) := fun h h1 h2 => toldH_many h h1 h2
 have HT4 : Hid (findM k d.done = 0 → ¬ (o = 1 ∧ heldIn d.held k = false) → ¬ 100 ≤ d.done.length → toldH d k o = ⟨0, 0, decS d k o⟩) := fun h h1 h2 => toldH_ok h h1 h2
 have HOk : Hid (shdF d = 0 → ShdOk d ∧ d.done.length ≤ 100) := fun h => ⟨shdOk_of h, (shdOk_of h).ls.nd⟩
 generalize hn1 : d.bals.length = n1 at *
 generalize hn2 : d.votes.length = n2 at *
 generalize hn3 : d.held.length = n3 at *
 generalize hn4 : d.done.length = n4 at *
 generalize hn5 : d.appl.length = n5 at *
 have HNN : Hid (d.bals.length = n1 ∧ d.votes.length = n2 ∧ d.held.length = n3 ∧ d.done.length = n4 ∧ d.appl.length = n5) := ⟨hn1, hn2, hn3, hn4, hn5⟩
 clear hn1 hn2 hn3 hn4 hn5
 generalize decideD d k o = Z at *
 generalize shdF d = sf at *
 generalize findM k d.done = fd at *
 go_enter Tryz.func19, Tryz.ntmps19
 go_wp2_with fail
 refine (HSf.out _ (qBq)).mono ?_
 rintro e w1 ⟨rfl, hb1⟩
 have hB1 : Below w.heap.size w w1 := bS (qBq) hb1
 have hz1 := hb1.size
 simp at hz1
 have y0 : w1.cell? ⟨w.heap.size, 0, none⟩ = some (.int .i64 d.idx) := cK hb1 (by simp [go_sem])
 have y1 : w1.cell? ⟨w.heap.size, 1, none⟩ = some (.slice a1 n1 c1) := cK hb1 (by simp [go_sem])
 have y2 : w1.cell? ⟨w.heap.size, 2, none⟩ = some (.slice a2 n2 c2) := cK hb1 (by simp [go_sem])
 have y3 : w1.cell? ⟨w.heap.size, 3, none⟩ = some (.slice a3 n3 c3) := cK hb1 (by simp [go_sem])
 have y4 : w1.cell? ⟨w.heap.size, 4, none⟩ = some (.slice a4 n4 c4) := cK hb1 (by simp [go_sem])
 have y5 : w1.cell? ⟨w.heap.size, 5, none⟩ = some (.slice a5 n5 c5) := cK hb1 (by simp [go_sem])
 have r0 : w1.cell? ⟨w.heap.size + 1, 0, none⟩ = some (.int .i64 0) := cK hb1 (by simp [go_sem])
 have r1 : w1.cell? ⟨w.heap.size + 1, 1, none⟩ = some (.int .i64 0) := cK hb1 (by simp [go_sem])
 have r2 : w1.cell? ⟨w.heap.size + 1, 2, none⟩ = some (.int .i64 0) := cK hb1 (by simp [go_sem])
 have r3 : w1.cell? ⟨w.heap.size + 1, 3, none⟩ = some (.slice none 0 0) := cK hb1 (by simp [go_sem])
 have r4 : w1.cell? ⟨w.heap.size + 1, 4, none⟩ = some (.slice none 0 0) := cK hb1 (by simp [go_sem])
 have r5 : w1.cell? ⟨w.heap.size + 1, 5, none⟩ = some (.slice none 0 0) := cK hb1 (by simp [go_sem])
 have r6 : w1.cell? ⟨w.heap.size + 1, 6, none⟩ = some (.slice none 0 0) := cK hb1 (by simp [go_sem])
 have r7 : w1.cell? ⟨w.heap.size + 1, 7, none⟩ = some (.slice none 0 0) := cK hb1 (by simp [go_sem])
 have rf : ∀ o, w1.frozen? ⟨w.heap.size + 1, o, none⟩ = false := fun o => by rw [(bcell hb1).2 _ _ (by simp)]; simp [go_sem]
 clear hb1 HSf
 by_cases hsf : sf = 0
 rotate_left
 ·
  have HC : Hid (Z = errH sf) := HE0.out hsf
  have hsf' : (sf != 0) = true := by simp [hsf]
  clear HE0 HE1 HE2 HT0 HT1 HT2 HT3 HT4 HIs HCp HDe HVi HOk
  go_wp2
  refine bodyPost_ret (v := .agg #[.int .i64 sf, .int .i64 0, .int .i64 0, .slice none 0 0, .slice none 0 0, .slice none 0 0, .slice none 0 0, .slice none 0 0]) (by simp [results, Tryz.results19, go_sem, r0, r1, r2, r3, r4, r5, r6, r7, rf]) rfl (vote_err HC.out ?_)
  (repeat (first | refine bset ?_ (by simp; omega) _ | refine bset ?_ (by simp) _ | refine bA ?_ _ | assumption))
 have hsf' : (sf != 0) = false := by simp [hsf]
 have HE1' : Hid ((inB k 1 1000000000 && inB o 1 2) = false → Z = errH 3) := fun h => HE1.out hsf h
 have HE2' : Hid ((inB k 1 1000000000 && inB o 1 2) = true → Z = toldH d k o) := fun h => HE2.out hsf h
 obtain ⟨hok, hn4⟩ := HOk.out hsf
 have HOK : Hid (ShdOk d) := hok
 clear HE0 HE1 HE2 HOk hsf hok
 have HBo : Hid (inB o 1 2 = true → o = 1 ∨ o = 2) := fun h => by have := inBi.1 h; omega
 by_cases hr : (inB k 1 1000000000 && inB o 1 2) = true
 rotate_left
 ·
  have hr' : (inB k 1 1000000000 && inB o 1 2) = false := by simpa using hr
  have HC : Hid (Z = errH 3) := HE1'.out hr'
  clear HE1' HE2' HT0 HT1 HT2 HT3 HT4 HIs HCp HDe HVi HBo hr
  cases hk : inB k 1 1000000000
  ·
   go_wp2_with (first | (go_at_call 56; refine (isId_any _ _).mono ?_; rintro e w' ⟨rfl, rfl⟩; rw [hk]))
   refine bodyPost_ret (v := .agg #[.int .i64 3, .int .i64 0, .int .i64 0, .slice none 0 0, .slice none 0 0, .slice none 0 0, .slice none 0 0, .slice none 0 0]) (by simp [results, Tryz.results19, go_sem, r0, r1, r2, r3, r4, r5, r6, r7, rf]) rfl (vote_err HC.out ?_)
   (repeat (first | refine bset ?_ (by simp; omega) _ | refine bset ?_ (by simp) _ | refine bA ?_ _ | assumption))
  ·
   have ho2 : inB o 1 2 = false := by rw [hk] at hr'; simpa using hr'
   go_wp2_with (first | (go_at_call 56; refine (isId_any _ _).mono ?_; rintro e w' ⟨rfl, rfl⟩; rw [hk]) | (go_at_call 57; refine (isOutcome_any _ _).mono ?_; rintro e w' ⟨rfl, rfl⟩; rw [ho2]))
   refine bodyPost_ret (v := .agg #[.int .i64 3, .int .i64 0, .int .i64 0, .slice none 0 0, .slice none 0 0, .slice none 0 0, .slice none 0 0, .slice none 0 0]) (by simp [results, Tryz.results19, go_sem, r0, r1, r2, r3, r4, r5, r6, r7, rf]) rfl (vote_err HC.out ?_)
   (repeat (first | refine bset ?_ (by simp; omega) _ | refine bset ?_ (by simp) _ | refine bA ?_ _ | assumption))
 have hk : inB k 1 1000000000 = true := by simp only [Bool.and_eq_true] at hr; exact hr.1
 have ho2 : inB o 1 2 = true := by simp only [Bool.and_eq_true] at hr; exact hr.2
 have HZT : Hid (Z = toldH d k o) := HE2'.out hr
 have HO12 : Hid (o = 1 ∨ o = 2) := HBo.out ho2
 clear HE1' HE2' HBo hr
 go_wp2_with (first | (go_at_call 56; refine (isId_any _ _).mono ?_; rintro e w' ⟨rfl, rfl⟩; rw [hk]) | (go_at_call 57; refine (isOutcome_any _ _).mono ?_; rintro e w' ⟨rfl, rfl⟩; rw [ho2]) | fail)
 refine (HVi.out _ hB1 HOK.out).mono ?_
 rintro e w2 ⟨rfl, hb2⟩
 have hB2 : Below w.heap.size w w2 := bS hB1 hb2
 replace y0 := cK hb2 y0
 replace y1 := cK hb2 y1
 replace y2 := cK hb2 y2
 replace y3 := cK hb2 y3
 replace y4 := cK hb2 y4
 replace y5 := cK hb2 y5
 replace r0 := cK hb2 r0
 replace r1 := cK hb2 r1
 replace r2 := cK hb2 r2
 replace r3 := cK hb2 r3
 replace r4 := cK hb2 r4
 replace r5 := cK hb2 r5
 replace r6 := cK hb2 r6
 replace r7 := cK hb2 r7
 replace rf : ∀ o, w2.frozen? ⟨w.heap.size + 1, o, none⟩ = false := fun o => by rw [(bcell hb2).2 _ _ (by omega)]; exact rf o
 have hz2 : w.heap.size + 1 < w2.heap.size := by have := hb2.size; omega
 clear hb2 HVi hz1 hB1
 have ho0 : ¬ o = 0 := by have := HO12.out; omega
 by_cases hfo : fd = o
 ·
  have hfd0 : ¬ fd = 0 := by omega
  have HC : Hid (Z = ⟨0, 0, d⟩) := HZT.out.trans (HT0.out hfd0 hfo)
  have hfo' : (fd == o) = true := by simp [hfo]
  clear HT0 HT1 HT2 HT3 HT4 HIs HDe
  go_wp2_with fail
  refine (HCp.out _ hB2 HOK.out).mono ?_
  rintro e w3 ⟨v3, F3, rfl, o3, hb3⟩
  obtain ⟨s1, s2, s3, s4, s5, f1, f2, f3, f4, f5, rfl⟩ := shd_formO o3
  obtain ⟨m1, hm1⟩ : ∃ m, m = d.bals.length := ⟨_, rfl⟩
  obtain ⟨m2, hm2⟩ : ∃ m, m = d.votes.length := ⟨_, rfl⟩
  obtain ⟨m3, hm3⟩ : ∃ m, m = d.held.length := ⟨_, rfl⟩
  obtain ⟨m4, hm4⟩ : ∃ m, m = d.done.length := ⟨_, rfl⟩
  obtain ⟨m5, hm5⟩ : ∃ m, m = d.appl.length := ⟨_, rfl⟩
  rw [← hm1, ← hm2, ← hm3, ← hm4, ← hm5] at o3 ⊢
  have HO3 : Hid (shdR.O w3 w2.heap.size F3 (.agg #[.int .i64 d.idx, .slice s1 m1 f1, .slice s2 m2 f2, .slice s3 m3 f3, .slice s4 m4 f4, .slice s5 m5 f5]) d) := o3
  clear o3 hm1 hm2 hm3 hm4 hm5
  have hB3 : Below w.heap.size w w3 := bS hB2 hb3
  replace r0 := cK hb3 r0
  replace r1 := cK hb3 r1
  replace r2 := cK hb3 r2
  replace r3 := cK hb3 r3
  replace r4 := cK hb3 r4
  replace r5 := cK hb3 r5
  replace r6 := cK hb3 r6
  replace r7 := cK hb3 r7
  replace rf : ∀ o, w3.frozen? ⟨w.heap.size + 1, o, none⟩ = false := fun o => by rw [(bcell hb3).2 _ _ (by omega)]; exact rf o
  clear hb3 HCp
  go_wp2
  refine bodyPost_ret (v := .agg #[.int .i64 0, .int .i64 0, .int .i64 d.idx, .slice s1 m1 f1, .slice s2 m2 f2, .slice s3 m3 f3, .slice s4 m4 f4, .slice s5 m5 f5]) (by simp [results, Tryz.results19, go_sem, r0, r1, r2, r3, r4, r5, r6, r7, rf]) rfl ?_
  rw [HC.out]
  have hbR : w.heap.size ≤ w.heap.size + 1 := by omega
  exact ⟨_, F3, rfl, shdRR.base (setR8 shdRR (shdR_of (d := d) 0 0 HO3.out) (fun h => by have := (shdR.rng HO3.out _ h).1; omega) _ _ _ _ _ _ _ _) (by omega), bset (p := ⟨w.heap.size + 1, 7, none⟩) (bset (p := ⟨w.heap.size + 1, 6, none⟩) (bset (p := ⟨w.heap.size + 1, 5, none⟩) (bset (p := ⟨w.heap.size + 1, 4, none⟩) (bset (p := ⟨w.heap.size + 1, 3, none⟩) (bset (p := ⟨w.heap.size + 1, 2, none⟩) (bset (p := ⟨w.heap.size + 1, 1, none⟩) (bset (p := ⟨w.heap.size + 1, 0, none⟩) (hB3) hbR _) hbR _) hbR _) hbR _) hbR _) hbR _) hbR _) hbR _⟩
 have hfo' : (fd == o) = false := by simpa using hfo
 by_cases hfd : fd = 0
 rotate_left
 ·
  have HC : Hid (Z = errH 7) := HZT.out.trans (HT1.out hfd hfo)
  have hfd' : (fd != 0) = true := by simp [hfd]
  clear HT0 HT1 HT2 HT3 HT4 HIs HDe HCp
  go_wp2
  refine bodyPost_ret (v := .agg #[.int .i64 7, .int .i64 0, .int .i64 0, .slice none 0 0, .slice none 0 0, .slice none 0 0, .slice none 0 0, .slice none 0 0]) (by simp [results, Tryz.results19, go_sem, r0, r1, r2, r3, r4, r5, r6, r7, rf]) rfl (vote_err HC.out ?_)
  (repeat (first | refine bset ?_ (by simp; omega) _ | refine bset ?_ (by simp) _ | refine bA ?_ _ | assumption))
 have hfd' : (fd != 0) = false := by simp [hfd]
 have HT2' : Hid (o = 1 ∧ heldIn d.held k = false → Z = errH 1) := fun h => HZT.out.trans (HT2.out hfd h)
 have HT3' : Hid (¬ (o = 1 ∧ heldIn d.held k = false) → 100 ≤ n4 → Z = errH 2) := fun h h1 => HZT.out.trans (HT3.out hfd h h1)
 have HT4' : Hid (¬ (o = 1 ∧ heldIn d.held k = false) → ¬ 100 ≤ n4 → Z = ⟨0, 0, decS d k o⟩) := fun h h1 => HZT.out.trans (HT4.out hfd h h1)
 have HHt : Hid (¬ (o = 1 ∧ heldIn d.held k = false) → o = 1 → heldIn d.held k = true) := fun h h1 => by
  cases e : heldIn d.held k with
  | true => rfl
  | false => exact absurd ⟨h1, e⟩ h
 clear HT0 HT1 HT2 HT3 HT4 HZT hfd hfo
 by_cases ho1 : o = 1
 rotate_left
 ·
  have ho1' : (o == 1) = false := by simpa using ho1
  have hnf : ¬ (o = 1 ∧ heldIn d.held k = false) := fun h => ho1 h.1
  clear HIs
  have HNF : Hid (¬ (o = 1 ∧ heldIn d.held k = false)) := hnf
  clear hnf
  by_cases hm : 100 ≤ n4
  ·
   have HC : Hid (Z = errH 2) := HT3'.out HNF.out hm
   have hm1 : ((n4 : Int) == 100) = true := by simp; omega
   have hm2 : (n4 : Int) = 100 := by omega
   clear HT2' HT3' HT4' HHt HDe HCp
   go_wp2
   refine bodyPost_ret (v := .agg #[.int .i64 2, .int .i64 0, .int .i64 0, .slice none 0 0, .slice none 0 0, .slice none 0 0, .slice none 0 0, .slice none 0 0]) (by simp [results, Tryz.results19, go_sem, r0, r1, r2, r3, r4, r5, r6, r7, rf]) rfl (vote_err HC.out ?_)
   (repeat (first | refine bset ?_ (by simp; omega) _ | refine bset ?_ (by simp) _ | refine bA ?_ _ | assumption))
  have HC : Hid (Z = ⟨0, 0, decS d k o⟩) := HT4'.out HNF.out hm
  have hm1 : ((n4 : Int) == 100) = false := by simp; omega
  have hm2 : ¬ (n4 : Int) = 100 := by omega
  clear HT2' HT3' HT4' hm
  go_wp2_with fail
  refine (HCp.out _ hB2 HOK.out).mono ?_
  rintro e w3 ⟨v3, F3, rfl, o3, hb3⟩
  obtain ⟨s1, s2, s3, s4, s5, f1, f2, f3, f4, f5, rfl⟩ := shd_formO o3
  obtain ⟨m1, hm1⟩ : ∃ m, m = d.bals.length := ⟨_, rfl⟩
  obtain ⟨m2, hm2⟩ : ∃ m, m = d.votes.length := ⟨_, rfl⟩
  obtain ⟨m3, hm3⟩ : ∃ m, m = d.held.length := ⟨_, rfl⟩
  obtain ⟨m4, hm4⟩ : ∃ m, m = d.done.length := ⟨_, rfl⟩
  obtain ⟨m5, hm5⟩ : ∃ m, m = d.appl.length := ⟨_, rfl⟩
  rw [← hm1, ← hm2, ← hm3, ← hm4, ← hm5] at o3 ⊢
  have HO3 : Hid (shdR.O w3 w2.heap.size F3 (.agg #[.int .i64 d.idx, .slice s1 m1 f1, .slice s2 m2 f2, .slice s3 m3 f3, .slice s4 m4 f4, .slice s5 m5 f5]) d) := o3
  clear o3 hm1 hm2 hm3 hm4 hm5
  have hB3 : Below w.heap.size w w3 := bS hB2 hb3
  replace r0 := cK hb3 r0
  replace r1 := cK hb3 r1
  replace r2 := cK hb3 r2
  replace r3 := cK hb3 r3
  replace r4 := cK hb3 r4
  replace r5 := cK hb3 r5
  replace r6 := cK hb3 r6
  replace r7 := cK hb3 r7
  replace rf : ∀ o, w3.frozen? ⟨w.heap.size + 1, o, none⟩ = false := fun o => by rw [(bcell hb3).2 _ _ (by omega)]; exact rf o
  have hz3 := hb3.size
  clear hb3 HCp
  go_wp2_with fail
  refine (HDe.out _ _ F3 _ HO3.out hz3 HOK.out HO12.out (HHt.out HNF.out)).mono ?_
  rintro e w4 ⟨v4, F4, rfl, o4, hb4⟩
  generalize decS d k o = DS at *
  obtain ⟨t1, t2, t3, t4, t5, g1, g2, g3, g4, g5, rfl⟩ := shd_formO o4
  have HO4 : Hid (shdR.O w4 w2.heap.size F4 (.agg #[.int .i64 DS.idx, .slice t1 DS.bals.length g1, .slice t2 DS.votes.length g2, .slice t3 DS.held.length g3, .slice t4 DS.done.length g4, .slice t5 DS.appl.length g5]) DS) := o4
  have hB4 : Below w.heap.size w w4 := Below.trans hB3 (hb4.mono (by omega))
  replace r0 := low10 hb4 (show w.heap.size + 1 < w2.heap.size by omega) r0
  replace r1 := low10 hb4 (show w.heap.size + 1 < w2.heap.size by omega) r1
  replace r2 := low10 hb4 (show w.heap.size + 1 < w2.heap.size by omega) r2
  replace r3 := low10 hb4 (show w.heap.size + 1 < w2.heap.size by omega) r3
  replace r4 := low10 hb4 (show w.heap.size + 1 < w2.heap.size by omega) r4
  replace r5 := low10 hb4 (show w.heap.size + 1 < w2.heap.size by omega) r5
  replace r6 := low10 hb4 (show w.heap.size + 1 < w2.heap.size by omega) r6
  replace r7 := low10 hb4 (show w.heap.size + 1 < w2.heap.size by omega) r7
  replace rf : ∀ o, w4.frozen? ⟨w.heap.size + 1, o, none⟩ = false := fun o => by rw [hb4.frozen (p := ⟨w.heap.size + 1, o, none⟩) (by dsimp only; omega)]; exact rf o
  clear o4 hb4 HDe
  generalize DS.bals.length = l1 at *
  generalize DS.votes.length = l2 at *
  generalize DS.held.length = l3 at *
  generalize DS.done.length = l4 at *
  generalize DS.appl.length = l5 at *
  go_wp2
  refine bodyPost_ret (v := .agg #[.int .i64 0, .int .i64 0, .int .i64 DS.idx, .slice t1 l1 g1, .slice t2 l2 g2, .slice t3 l3 g3, .slice t4 l4 g4, .slice t5 l5 g5]) (by simp [results, Tryz.results19, go_sem, r0, r1, r2, r3, r4, r5, r6, r7, rf]) rfl ?_
  rw [HC.out]
  have hbR : w.heap.size ≤ w.heap.size + 1 := by omega
  exact ⟨_, F4, rfl, shdRR.base (setR8 shdRR (shdR_of (d := DS) 0 0 HO4.out) (fun h => by have := (shdR.rng HO4.out _ h).1; omega) _ _ _ _ _ _ _ _) (by omega), bset (p := ⟨w.heap.size + 1, 7, none⟩) (bset (p := ⟨w.heap.size + 1, 6, none⟩) (bset (p := ⟨w.heap.size + 1, 5, none⟩) (bset (p := ⟨w.heap.size + 1, 4, none⟩) (bset (p := ⟨w.heap.size + 1, 3, none⟩) (bset (p := ⟨w.heap.size + 1, 2, none⟩) (bset (p := ⟨w.heap.size + 1, 1, none⟩) (bset (p := ⟨w.heap.size + 1, 0, none⟩) (hB4) hbR _) hbR _) hbR _) hbR _) hbR _) hbR _) hbR _) hbR _⟩
 have ho1' : (o == 1) = true := by simp [ho1]
 have HO1 : Hid (o = 1) := ho1
 clear ho1
 go_wp2_with fail
 refine (HIs.out _ hB2 HOK.out).mono ?_
 rintro e wk ⟨rfl, hbk⟩
 have hBk : Below w.heap.size w wk := bS hB2 hbk
 replace y0 := cK hbk y0
 replace y1 := cK hbk y1
 replace y2 := cK hbk y2
 replace y3 := cK hbk y3
 replace y4 := cK hbk y4
 replace y5 := cK hbk y5
 replace r0 := cK hbk r0
 replace r1 := cK hbk r1
 replace r2 := cK hbk r2
 replace r3 := cK hbk r3
 replace r4 := cK hbk r4
 replace r5 := cK hbk r5
 replace r6 := cK hbk r6
 replace r7 := cK hbk r7
 replace rf : ∀ o, wk.frozen? ⟨w.heap.size + 1, o, none⟩ = false := fun o => by rw [(bcell hbk).2 _ _ (by omega)]; exact rf o
 have hzk : w.heap.size + 1 < wk.heap.size := by have := hbk.size; omega
 clear hbk hB2 hz2 HIs
 cases hhe : heldIn d.held k
 ·
  have HC : Hid (Z = errH 1) := HT2'.out ⟨HO1.out, hhe⟩
  clear HT2' HT3' HT4' HHt HDe HCp
  go_wp2
  refine bodyPost_ret (v := .agg #[.int .i64 1, .int .i64 0, .int .i64 0, .slice none 0 0, .slice none 0 0, .slice none 0 0, .slice none 0 0, .slice none 0 0]) (by simp [results, Tryz.results19, go_sem, r0, r1, r2, r3, r4, r5, r6, r7, rf]) rfl (vote_err HC.out ?_)
  (repeat (first | refine bset ?_ (by simp; omega) _ | refine bset ?_ (by simp) _ | refine bA ?_ _ | assumption))
 ·
  have hnf : ¬ (o = 1 ∧ heldIn d.held k = false) := fun h => by rw [hhe] at h; cases h.2
  clear ho1' hhe
  have HNF : Hid (¬ (o = 1 ∧ heldIn d.held k = false)) := hnf
  clear hnf
  by_cases hm : 100 ≤ n4
  ·
   have HC : Hid (Z = errH 2) := HT3'.out HNF.out hm
   have hm1 : ((n4 : Int) == 100) = true := by simp; omega
   have hm2 : (n4 : Int) = 100 := by omega
   clear HT2' HT3' HT4' HHt HDe HCp
   go_wp2
   refine bodyPost_ret (v := .agg #[.int .i64 2, .int .i64 0, .int .i64 0, .slice none 0 0, .slice none 0 0, .slice none 0 0, .slice none 0 0, .slice none 0 0]) (by simp [results, Tryz.results19, go_sem, r0, r1, r2, r3, r4, r5, r6, r7, rf]) rfl (vote_err HC.out ?_)
   (repeat (first | refine bset ?_ (by simp; omega) _ | refine bset ?_ (by simp) _ | refine bA ?_ _ | assumption))
  have HC : Hid (Z = ⟨0, 0, decS d k o⟩) := HT4'.out HNF.out hm
  have hm1 : ((n4 : Int) == 100) = false := by simp; omega
  have hm2 : ¬ (n4 : Int) = 100 := by omega
  clear HT2' HT3' HT4' hm
  go_wp2_with fail
  refine (HCp.out _ hBk HOK.out).mono ?_
  rintro e w3 ⟨v3, F3, rfl, o3, hb3⟩
  obtain ⟨s1, s2, s3, s4, s5, f1, f2, f3, f4, f5, rfl⟩ := shd_formO o3
  obtain ⟨m1, hm1⟩ : ∃ m, m = d.bals.length := ⟨_, rfl⟩
  obtain ⟨m2, hm2⟩ : ∃ m, m = d.votes.length := ⟨_, rfl⟩
  obtain ⟨m3, hm3⟩ : ∃ m, m = d.held.length := ⟨_, rfl⟩
  obtain ⟨m4, hm4⟩ : ∃ m, m = d.done.length := ⟨_, rfl⟩
  obtain ⟨m5, hm5⟩ : ∃ m, m = d.appl.length := ⟨_, rfl⟩
  rw [← hm1, ← hm2, ← hm3, ← hm4, ← hm5] at o3 ⊢
  have HO3 : Hid (shdR.O w3 wk.heap.size F3 (.agg #[.int .i64 d.idx, .slice s1 m1 f1, .slice s2 m2 f2, .slice s3 m3 f3, .slice s4 m4 f4, .slice s5 m5 f5]) d) := o3
  clear o3 hm1 hm2 hm3 hm4 hm5
  have hB3 : Below w.heap.size w w3 := bS hBk hb3
  replace r0 := cK hb3 r0
  replace r1 := cK hb3 r1
  replace r2 := cK hb3 r2
  replace r3 := cK hb3 r3
  replace r4 := cK hb3 r4
  replace r5 := cK hb3 r5
  replace r6 := cK hb3 r6
  replace r7 := cK hb3 r7
  replace rf : ∀ o, w3.frozen? ⟨w.heap.size + 1, o, none⟩ = false := fun o => by rw [(bcell hb3).2 _ _ (by omega)]; exact rf o
  have hz3 := hb3.size
  clear hb3 HCp
  go_wp2_with fail
  refine (HDe.out _ _ F3 _ HO3.out hz3 HOK.out HO12.out (HHt.out HNF.out)).mono ?_
  rintro e w4 ⟨v4, F4, rfl, o4, hb4⟩
  generalize decS d k o = DS at *
  obtain ⟨t1, t2, t3, t4, t5, g1, g2, g3, g4, g5, rfl⟩ := shd_formO o4
  have HO4 : Hid (shdR.O w4 wk.heap.size F4 (.agg #[.int .i64 DS.idx, .slice t1 DS.bals.length g1, .slice t2 DS.votes.length g2, .slice t3 DS.held.length g3, .slice t4 DS.done.length g4, .slice t5 DS.appl.length g5]) DS) := o4
  have hB4 : Below w.heap.size w w4 := Below.trans hB3 (hb4.mono (by omega))
  replace r0 := low10 hb4 (show w.heap.size + 1 < wk.heap.size by omega) r0
  replace r1 := low10 hb4 (show w.heap.size + 1 < wk.heap.size by omega) r1
  replace r2 := low10 hb4 (show w.heap.size + 1 < wk.heap.size by omega) r2
  replace r3 := low10 hb4 (show w.heap.size + 1 < wk.heap.size by omega) r3
  replace r4 := low10 hb4 (show w.heap.size + 1 < wk.heap.size by omega) r4
  replace r5 := low10 hb4 (show w.heap.size + 1 < wk.heap.size by omega) r5
  replace r6 := low10 hb4 (show w.heap.size + 1 < wk.heap.size by omega) r6
  replace r7 := low10 hb4 (show w.heap.size + 1 < wk.heap.size by omega) r7
  replace rf : ∀ o, w4.frozen? ⟨w.heap.size + 1, o, none⟩ = false := fun o => by rw [hb4.frozen (p := ⟨w.heap.size + 1, o, none⟩) (by dsimp only; omega)]; exact rf o
  clear o4 hb4 HDe
  generalize DS.bals.length = l1 at *
  generalize DS.votes.length = l2 at *
  generalize DS.held.length = l3 at *
  generalize DS.done.length = l4 at *
  generalize DS.appl.length = l5 at *
  go_wp2
  refine bodyPost_ret (v := .agg #[.int .i64 0, .int .i64 0, .int .i64 DS.idx, .slice t1 l1 g1, .slice t2 l2 g2, .slice t3 l3 g3, .slice t4 l4 g4, .slice t5 l5 g5]) (by simp [results, Tryz.results19, go_sem, r0, r1, r2, r3, r4, r5, r6, r7, rf]) rfl ?_
  rw [HC.out]
  have hbR : w.heap.size ≤ w.heap.size + 1 := by omega
  exact ⟨_, F4, rfl, shdRR.base (setR8 shdRR (shdR_of (d := DS) 0 0 HO4.out) (fun h => by have := (shdR.rng HO4.out _ h).1; omega) _ _ _ _ _ _ _ _) (by omega), bset (p := ⟨w.heap.size + 1, 7, none⟩) (bset (p := ⟨w.heap.size + 1, 6, none⟩) (bset (p := ⟨w.heap.size + 1, 5, none⟩) (bset (p := ⟨w.heap.size + 1, 4, none⟩) (bset (p := ⟨w.heap.size + 1, 3, none⟩) (bset (p := ⟨w.heap.size + 1, 2, none⟩) (bset (p := ⟨w.heap.size + 1, 1, none⟩) (bset (p := ⟨w.heap.size + 1, 0, none⟩) (hB4) hbR _) hbR _) hbR _) hbR _) hbR _) hbR _) hbR _) hbR _⟩
end Go.Proofs.YtndghenlapbaaaaGreat

/-
 A mark put in its place, the document's.
-/
namespace Go.Proofs.YtndghenlapbaaaaGreat
open Go.RowKit
variable [DecidableEq Mrk] [Inhabited Mrk] [DecidableEq Leg] [Inhabited Leg] [DecidableEq Cont] [Inhabited Cont] [DecidableEq Bal] [Inhabited Bal] [DecidableEq Ledg] [Inhabited Ledg]
attribute [local go_sem ↓] Go.wp_at_zero Go.wp_at_succ

theorem addr_add10 (g o j : Nat) : (Addr.mk g o none).add j = ⟨g, o + j, none⟩ := by
 by_cases h : j = 0
 ·
  subst h; simp [Addr.add]
 ·
  simp [Addr.add, h]
theorem mrks_row {w : World} {base : Nat} {F : Nat → Prop} {x : Value} {xs : List Mrk} (h : mrksR.O w base F x xs) : (x = .slice none 0 0 ∧ xs = []) ∨ ∃ g cap, x = .slice (some ⟨g, 0, none⟩) xs.length cap ∧ xs.length ≤ cap ∧ cap ≤ maxLen ∧ ∀ k, k < xs.length → mrkCells w g (0 + k * 2) (xs.getD k default) := by
 have hv := mrksR.ofO h
 rcases h.1.2 with ⟨rfl, h0⟩ | ⟨g, cap, cur, rfl, hbg, hg, hnc, hcm, _⟩
 ·
  exact .inl ⟨rfl, List.eq_nil_of_length_eq_zero h0⟩
 ·
  refine .inr ⟨g, cap, rfl, hnc, hcm, fun k hk => ?_⟩
  obtain ⟨a, c, e, _, _, hx⟩ := hv
  obtain ⟨b, o, ea, hc⟩ := hx k hk
  simp only [Value.slice.injEq, true_and] at e
  obtain ⟨e1, _⟩ := e
  rw [← e1] at ea
  simp only [Option.some.injEq, Addr.mk.injEq, and_true] at ea
  obtain ⟨rfl, rfl⟩ := ea
  exact hc
theorem mrks_piece {w : World} {base g cap : Nat} {xs : List Mrk} (h : w.ownsRow base 89 2 (.slice (some ⟨g, 0, none⟩) xs.length cap) xs.length (mrksC xs)) (i m c : Nat) (hi : i + m ≤ xs.length) :
  AppAny w (.slice (some ⟨g, i * 2, none⟩) m c) m (mrksC ((xs.drop i).take m)) := by
 refine .inr ⟨_, _, rfl, fun j x hj => ?_⟩
 rw [mrksC_take, mrksC_drop] at hj
 have hcl : (mrksC xs).length = xs.length * 2 := h.1
 rw [List.getElem?_take] at hj
 split at hj
 ·
  rw [List.getElem?_drop] at hj
  have := h.cellAt (i * 2 + j) (by omega)
  rw [hj] at this
  rw [addr_add10]
  exact this
 ·
  cases hj
theorem any_none10 (W : World) (p : Option Addr) (c : Nat) : AppAny W (.slice p 0 c) 0 [] := by
 cases p with
 | none => exact .inl ⟨c, rfl, rfl, rfl⟩
 | some a => exact .inr ⟨a, c, rfl, fun j x hj => by simp at hj⟩
theorem lit12M1 (Y : World) (base : Nat) (m : Mrk) (hb : base ≤ Y.heap.size) : mrksR.O (Y.alloc (.cells #[.int .i64 m.con, .int .i64 m.val] 89)) base (fun b => b = Y.heap.size) (.slice (some ⟨Y.heap.size, 0, none⟩) 1 1) [m] :=
 ⟨World.ownsRow_lit (base := base) (e := 89) (size := 2) Y #[.int .i64 m.con, .int .i64 m.val] 1 hb (by decide) rfl, by funext b; simp [Value.ownBlock, eq_comm]⟩
def mk10C : Nat → List Nat
 | 4 => [0]
 | 9 => [4]
 | 13 => [9]
 | _ => []
def mk10G (base : Nat) (xs : List Mrk) (m : Mrk) (k : Nat) : Nat → (Nat → Value) → (Nat → Prop) → World → Prop
 | 0, y, F, w => mrksR.O w base F (y 23) []
 | 4, y, F, w => mrksR.O w base F (y 27) (xs.take k)
 | 8, y, F, w => mrksR.O w base F (y 31) [m]
 | 9, y, F, w => mrksR.O w base F (y 32) (xs.take k ++ [m])
 | 13, y, F, w => mrksR.O w base F (y 36) (xs.take k ++ [m] ++ xs.drop k)
 | _, _, _, _ => True
set_option maxRecDepth 20000 in
set_option maxHeartbeats 8000000 in
theorem l10Mark_u (x : Value) (xs : List Mrk) (m : Mrk) (base : Nat) (F : Nat → Prop) (w : World) (hx : mrksR.O w base F x xs) (hn : xs.length ≤ 1048576) :
  Calls Tryz.prog 68 #[x, .int .i64 m.con, .int .i64 m.val] w fun e w' => ∃ v F', e = .returned v ∧ mrksR.O w' w.heap.size F' v (putM xs m) ∧ Below w.heap.size w w' := by
 have hown := hx.1
 rcases mrks_row hx with ⟨rfl, h0⟩ | ⟨g, cap, rfl, hnc, hcm, hcl⟩
 ·
  have HNil : Hid (xs = []) := h0
  have HN : Hid (xs.length = 0) := by show _ = _; rw [h0]; rfl
  have HP : Hid (putM xs m = xs.take 0 ++ [m] ++ xs.drop 0) := by show _ = _; rw [h0]; rfl
  clear hown hx h0 hn
  go_enter Tryz.func68, Tryz.ntmps68
  go_wp2
  go_loopw [7] (fun i w' => i = .int .i64 0 ∧ Below w.heap.size w w') (fun i _ => 0)
  case atStart => exact ⟨rfl, Below.refl _ _⟩
  case round =>
   obtain ⟨rfl, hbl⟩ := hrel
   have HS1 : Hid (∀ W, Below wr.heap.size wr W → AppAny W (.slice none 0 0) (xs.take 0).length (mrksC (xs.take 0))) := fun W hW => by
    rw [show xs.take 0 = [] by simp]; exact any_none10 _ _ _
   have HS2 : Hid (∀ W, Below wr.heap.size wr W → AppAny W (.slice none 0 0) (xs.drop 0).length (mrksC (xs.drop 0))) := fun W hW => by
    rw [show xs.drop 0 = [] by rw [HNil.out]; rfl]; exact any_none10 _ _ _
   have HT1 : Hid ((xs.take 0).length ≤ 1048576 ∧ (xs.drop 0).length ≤ 1048576) := ⟨by rw [List.length_take, HN.out]; omega, by rw [List.length_drop, HN.out]; omega⟩
   go_wp2
   refine wp_region_noPanic ?_
   refine region_upto (fun W => Below wr.heap.size wr W) 14 (by kernel_rfl) (qBq) (fun hS => ?_)
   refine tK (i := 1) (v := ?_) rfl (by kernel_rfl) hS ?_ ?_
   rotate_left
   ·
    intro wS hSw; (try dsimp only at hSw); go_simp; try with_reducible rfl
   try simp only [Act.put, jA, jB, jC, jD, jE, jF]
   refine tK (i := 2) (v := ?_) rfl (by kernel_rfl) hS ?_ ?_
   rotate_left
   ·
    intro wS hSw; (try dsimp only at hSw); go_simp; try with_reducible rfl
   try simp only [Act.put, jA, jB, jC, jD, jE, jF]
   refine tK (i := 3) (v := ?_) rfl (by kernel_rfl) hS ?_ ?_
   rotate_left
   ·
    intro wS hSw; (try dsimp only at hSw); go_simp; try with_reducible rfl
   try simp only [Act.put, jA, jB, jC, jD, jE, jF]
   refine tK (i := 5) (v := ?_) rfl (by kernel_rfl) hS ?_ ?_
   rotate_left
   ·
    intro wS hSw; (try dsimp only at hSw); go_simp; try with_reducible rfl
   try simp only [Act.put, jA, jB, jC, jD, jE, jF]
   refine tK (i := 6) (v := ?_) rfl (by kernel_rfl) hS ?_ ?_
   rotate_left
   ·
    intro wS hSw; (try dsimp only at hSw); go_simp; try with_reducible rfl
   try simp only [Act.put, jA, jB, jC, jD, jE, jF]
   refine tK (i := 7) (v := ?_) rfl (by kernel_rfl) hS ?_ ?_
   rotate_left
   ·
    intro wS hSw; (try dsimp only at hSw); go_simp; try with_reducible rfl
   try simp only [Act.put, jA, jB, jC, jD, jE, jF]
   refine tK (i := 10) (v := ?_) rfl (by kernel_rfl) hS ?_ ?_
   rotate_left
   ·
    intro wS hSw; (try dsimp only at hSw); go_simp; try with_reducible rfl
   try simp only [Act.put, jA, jB, jC, jD, jE, jF]
   refine tK (i := 11) (v := ?_) rfl (by kernel_rfl) hS ?_ ?_
   rotate_left
   ·
    intro wS hSw; (try dsimp only at hSw); go_simp; try with_reducible rfl
   try simp only [Act.put, jA, jB, jC, jD, jE, jF]
   refine tK (i := 12) (v := ?_) rfl (by kernel_rfl) hS ?_ ?_
   rotate_left
   ·
    intro wS hSw; (try dsimp only at hSw); go_simp; try with_reducible rfl
   try simp only [Act.put, jA, jB, jC, jD, jE, jF]
   have hb0 : Below wr.heap.size wr wr.drew := Below.drew (Below.refl _ _)
   generalize wr.drew = W0 at *
   refine upto_cons' [(0, 23), (4, 27), (8, 31), (9, 32), (13, 36)] mk10C (mk10G W0.heap.size xs m 0) (by kernel_rfl) hS ?_ ?_ ?_ ?_
   ·
    intro F' W W' h hm hF
    exact hm.below h h.size (fun b hb => by have := hF b hb; have := hb0.size; omega)
   ·
    intro p hp
    simp only [List.mem_cons, List.not_mem_nil, or_false] at hp
    rcases hp with rfl | rfl | rfl | rfl | rfl
    all_goals
     intro y y' F1 F' W W' h hF hm hap hF' e he
     simp only [mk10G] at h ⊢
     rw [e]
     exact mrksR.mod h hm (fun b hb hf => hap b hf hb)
   ·
    intro p hp
    simp only [List.mem_cons, List.not_mem_nil, or_false] at hp
    rcases hp with rfl | rfl | rfl | rfl | rfl
    all_goals
     refine ⟨_, rfl, rfl, ?_⟩
     intro y W Φ hSW hBW hd K hK
    ·
     clear hd
     refine ⟨?_⟩
     simp only [over, Act.put, jA, jB, jC, List.map_cons, List.map_nil, List.foldl_cons, List.foldl_nil, jD, jE, jF] at hK ⊢
     go_simp
     refine hK _ _ (fun b => b = W.heap.size) (Mod.of_below (qBq)) (fun b hb => .inr (by rw [hb]; simp)) ?_
     simp only [mk10G, updV]
     exact lit12M W _ hBW.size
    ·
     have g0 := (hd (0, 23) (by simp) (by kernel_rfl) (.inl (by simp [mk10C]))).2
     clear hd
     simp only [mk10G] at g0
     refine ⟨?_⟩
     simp only [over, Act.put, jA, jB, jC, List.map_cons, List.map_nil, List.foldl_cons, List.foldl_nil, jD, jE, jF] at hK ⊢
     refine ite_wantedG rfl ?_
     refine wp_app12M W ?hg1 (.tmp 23) (.tmp 26) ?ho1 W0.heap.size (y 23) (Φ 0) ([]) ?hs1 (.slice none 0 0) (xs.take 0) ?hx1 g0 (HS1.out W hSW) (by have := HT1.out; simp only [List.length_append, List.length_cons, List.length_nil]; omega) hBW.size ?_
     case hg1 => rfl
     case ho1 => rfl
     case hs1 => rfl
     case hx1 => rfl
     intro v' w' F' hO hm hl
     rw [List.nil_append] at hO
     refine hK _ _ F' (hm.mono (fun b hb => ⟨0, by simp [mk10C], hb⟩)) (fun b hb => (hl b hb).imp (fun h => ⟨0, by simp [mk10C], h⟩) (fun h => h)) ?_
     simp only [mk10G, updV]
     simpa using hO
    ·
     clear hd
     refine ⟨?_⟩
     simp only [over, Act.put, jA, jB, jC, List.map_cons, List.map_nil, List.foldl_cons, List.foldl_nil, jD, jE, jF] at hK ⊢
     go_simp
     refine hK _ _ (fun b => b = W.heap.size) (Mod.of_below (qBq)) (fun b hb => .inr (by rw [hb]; simp)) ?_
     simp only [mk10G, updV]
     exact lit12M1 W _ m hBW.size
    ·
     have g0 := (hd (4, 27) (by simp) (by kernel_rfl) (.inl (by simp [mk10C]))).2
     have g1 := (hd (8, 31) (by simp) (by kernel_rfl) (.inr (by decide))).2
     clear hd
     simp only [mk10G] at g0 g1
     have hsrc := appAny_mrks10 (mrksR.ofO g1)
     refine ⟨?_⟩
     simp only [over, Act.put, jA, jB, jC, List.map_cons, List.map_nil, List.foldl_cons, List.foldl_nil, jD, jE, jF] at hK ⊢
     refine ite_wantedG rfl ?_
     refine wp_app12M W ?hg1 (.tmp 27) (.tmp 31) ?ho1 W0.heap.size (y 27) (Φ 4) (xs.take 0) ?hs1 (y 31) [m] ?hx1 g0 hsrc (by have := HT1.out.1; simp only [List.length_cons, List.length_nil]; omega) hBW.size ?_
     case hg1 => rfl
     case ho1 => rfl
     case hs1 => rfl
     case hx1 => rfl
     intro v' w' F' hO hm hl
     refine hK _ _ F' (hm.mono (fun b hb => ⟨4, by simp [mk10C], hb⟩)) (fun b hb => (hl b hb).imp (fun h => ⟨4, by simp [mk10C], h⟩) (fun h => h)) ?_
     simp only [mk10G, updV]
     simpa using hO
    ·
     have g0 := (hd (9, 32) (by simp) (by kernel_rfl) (.inl (by simp [mk10C]))).2
     clear hd
     simp only [mk10G] at g0
     refine ⟨?_⟩
     simp only [over, Act.put, jA, jB, jC, List.map_cons, List.map_nil, List.foldl_cons, List.foldl_nil, jD, jE, jF] at hK ⊢
     refine ite_wantedG rfl ?_
     refine wp_app12M W ?hg1 (.tmp 32) (.tmp 35) ?ho1 W0.heap.size (y 32) (Φ 9) (xs.take 0 ++ [m]) ?hs1 (.slice none 0 0) (xs.drop 0) ?hx1 g0 (HS2.out W hSW) (by have := HT1.out; simp only [List.length_append, List.length_cons, List.length_nil]; omega) hBW.size ?_
     case hg1 => rfl
     case ho1 => rfl
     case hs1 => rfl
     case hx1 => rfl
     intro v' w' F' hO hm hl
     skip
     refine hK _ _ F' (hm.mono (fun b hb => ⟨9, by simp [mk10C], hb⟩)) (fun b hb => (hl b hb).imp (fun h => ⟨9, by simp [mk10C], h⟩) (fun h => h)) ?_
     simp only [mk10G, updV]
     simpa using hO
   ·
    refine ⟨_, rfl, ?_⟩
    intro y W Φ hSW hBW hd hap K hK
    have g13 := (hd (13, 36) (by simp) (by decide)).2
    clear hd hap
    simp only [mk10G] at g13
    have hz := hBW.size
    have hz0 := hb0.size
    have HOf : Hid (mrksR.O W W0.heap.size (Φ 13) (y 36) (xs.take 0 ++ [m] ++ xs.drop 0)) := g13
    have hz1 := hbl.size
    have hBE : Below w.heap.size w W := bS hbl (bS hb0 hBW)
    refine ⟨?_⟩
    simp only [over, Act.put, jA, jB, jC, List.map_cons, List.map_nil, List.foldl_cons, List.foldl_nil, jD, jE, jF]
    clear g13 hS hSW
    go_simp
    refine hK _ _ ?_
    clear hK K
    refine NoPanic.normal ?_
    go_wp2
    refine bodyPost_ret (v := y 36) (by simp [results, Tryz.results68, go_sem]) rfl ⟨_, Φ 13, rfl, ?_, hBE⟩
    rw [HP.out]
    exact mrksR.base HOf.out (by omega)
 ·
  obtain ⟨n, hn'⟩ : ∃ n, n = xs.length := ⟨_, rfl⟩
  have HN : Hid (xs.length = n) := hn'.symm
  have HO : Hid (w.ownsRow base 89 2 (.slice (some ⟨g, 0, none⟩) xs.length cap) xs.length (mrksC xs)) := hown
  have HC : Hid (∀ k, k < n → mrkCells w g (0 + k * 2) (xs.getD k default)) := fun k hk => hcl k (by omega)
  have HPo : Hid (∀ k, k ≤ n → (∀ j, j < k → (xs.getD j default).con < m.con) → (k < n → ¬ (xs.getD k default).con < m.con) → putM xs m = xs.take k ++ [m] ++ xs.drop k) := fun k hk h1 h2 => by
   unfold putM
   rw [posM_eq (by omega) h1 (fun h => h2 (by omega))]
  unfold maxLen at hcm
  rw [← hn'] at hnc hn ⊢
  clear hn' hown hx hcl
  go_enter Tryz.func68, Tryz.ntmps68
  go_wp2
  go_loopw [7] (fun i w' => ∃ k : Nat, k ≤ n ∧ i = .int .i64 k ∧ Hid (∀ j, j < k → (xs.getD j default).con < m.con) ∧ Below w.heap.size w w') (fun i _ => n - (intOf i).toNat)
  case atStart => exact ⟨0, Nat.zero_le _, rfl, fun j hj => absurd hj (Nat.not_lt_zero _), Below.refl _ _⟩
  case round =>
   obtain ⟨k, hk, rfl, HJ, hbl⟩ := hrel
   by_cases hgo : k < n ∧ (xs.getD k default).con < m.con
   ·
    obtain ⟨hlt, hco⟩ := hgo
    obtain ⟨z0, z1⟩ := HC.out k hlt
    replace z0 := cK hbl z0
    rw [Nat.zero_add] at z0
    have HJ2 : Hid (∀ j, j < k + 1 → (xs.getD j default).con < m.con) := fun j hj => by
     by_cases e : j = k
     ·
      rw [e]; exact hco
     ·
      exact HJ.out j (by omega)
    have k1 : (k : Int) < n := by omega
    have k2 : (0 : Int) ≤ k := by omega
    generalize (xs.getD k default).con = kc at *
    clear z1 HJ
    go_wp2
    exact ⟨⟨k + 1, by omega, by go_num, HJ2, qBq⟩, by simp [intOf]; omega⟩
   ·
    have HP : Hid (putM xs m = xs.take k ++ [m] ++ xs.drop k) := HPo.out k hk HJ.out (fun h1 => by
     by_cases h2 : (xs.getD k default).con < m.con
     ·
      exact absurd ⟨h1, h2⟩ hgo
     ·
      first | exact h2 | omega)
    have HOw : Hid (wr.ownsRow base 89 2 (.slice (some ⟨g, 0, none⟩) xs.length cap) xs.length (mrksC xs)) := owns_below HO.out hbl
    clear HPo HJ
    by_cases hlt : k < n
    ·
     have hco : ¬ (xs.getD k default).con < m.con := fun h => hgo ⟨hlt, h⟩
     obtain ⟨z0, z1⟩ := HC.out k hlt
     replace z0 := cK hbl z0
     rw [Nat.zero_add] at z0
     have k1 : (k : Int) < n := by omega
     have k2 : (0 : Int) ≤ k := by omega
     generalize (xs.getD k default).con = kc at *
     clear z1 hgo
     have c2 : ¬ cap = k := by omega
     have c3 : (k : Int) ≤ cap := by omega
     have c1 : k ≤ cap := by omega
     have c4 : (k : Int) ≤ n := by omega
     have c5 : k ≤ n := by omega
     have HS1 : Hid (∀ W, Below wr.heap.size wr W → AppAny W (.slice (some ⟨g, 0, none⟩) k cap) (xs.take k).length (mrksC (xs.take k))) := fun W hW => by
      have h := mrks_piece (owns_below HOw.out hW) 0 k cap (by rw [HN.out]; omega)
      rw [List.drop_zero] at h
      rw [show (xs.take k).length = k by rw [List.length_take, HN.out]; omega]
      simpa using h
     have HS2 : Hid (∀ W, Below wr.heap.size wr W → AppAny W (.slice (some ⟨g, k * 2, none⟩) (n - k) (cap - k)) (xs.drop k).length (mrksC (xs.drop k))) := fun W hW => by
      have h := mrks_piece (owns_below HOw.out hW) k (n - k) (cap - k) (by rw [HN.out]; omega)
      rw [List.take_of_length_le (by rw [List.length_drop, HN.out]; omega)] at h
      rw [show (xs.drop k).length = n - k by rw [List.length_drop, HN.out] <;> omega]
      exact h
     have HT1 : Hid ((xs.take k).length ≤ 1048576 ∧ (xs.drop k).length ≤ 1048576) := ⟨by rw [List.length_take, HN.out]; omega, by rw [List.length_drop, HN.out]; omega⟩
     go_wp2
     refine wp_region_noPanic ?_
     refine region_upto (fun W => Below wr.heap.size wr W) 14 (by kernel_rfl) (qBq) (fun hS => ?_)
     refine tK (i := 1) (v := ?_) rfl (by kernel_rfl) hS ?_ ?_
     rotate_left
     ·
      intro wS hSw; (try dsimp only at hSw); go_simp; try with_reducible rfl
     try simp only [Act.put, jA, jB, jC, jD, jE, jF]
     refine tK (i := 2) (v := ?_) rfl (by kernel_rfl) hS ?_ ?_
     rotate_left
     ·
      intro wS hSw; (try dsimp only at hSw); go_simp; try with_reducible rfl
     try simp only [Act.put, jA, jB, jC, jD, jE, jF]
     refine tK (i := 3) (v := ?_) rfl (by kernel_rfl) hS ?_ ?_
     rotate_left
     ·
      intro wS hSw; (try dsimp only at hSw); go_simp; try with_reducible rfl
     try simp only [Act.put, jA, jB, jC, jD, jE, jF]
     refine tK (i := 5) (v := ?_) rfl (by kernel_rfl) hS ?_ ?_
     rotate_left
     ·
      intro wS hSw; (try dsimp only at hSw); go_simp; try with_reducible rfl
     try simp only [Act.put, jA, jB, jC, jD, jE, jF]
     refine tK (i := 6) (v := ?_) rfl (by kernel_rfl) hS ?_ ?_
     rotate_left
     ·
      intro wS hSw; (try dsimp only at hSw); go_simp; try with_reducible rfl
     try simp only [Act.put, jA, jB, jC, jD, jE, jF]
     refine tK (i := 7) (v := ?_) rfl (by kernel_rfl) hS ?_ ?_
     rotate_left
     ·
      intro wS hSw; (try dsimp only at hSw); go_simp; try with_reducible rfl
     try simp only [Act.put, jA, jB, jC, jD, jE, jF]
     refine tK (i := 10) (v := ?_) rfl (by kernel_rfl) hS ?_ ?_
     rotate_left
     ·
      intro wS hSw; (try dsimp only at hSw); go_simp; try with_reducible rfl
     try simp only [Act.put, jA, jB, jC, jD, jE, jF]
     refine tK (i := 11) (v := ?_) rfl (by kernel_rfl) hS ?_ ?_
     rotate_left
     ·
      intro wS hSw; (try dsimp only at hSw); go_simp; try with_reducible rfl
     try simp only [Act.put, jA, jB, jC, jD, jE, jF]
     refine tK (i := 12) (v := ?_) rfl (by kernel_rfl) hS ?_ ?_
     rotate_left
     ·
      intro wS hSw; (try dsimp only at hSw); go_simp; try with_reducible rfl
     try simp only [Act.put, jA, jB, jC, jD, jE, jF]
     have hb0 : Below wr.heap.size wr wr.drew := Below.drew (Below.refl _ _)
     generalize wr.drew = W0 at *
     refine upto_cons' [(0, 23), (4, 27), (8, 31), (9, 32), (13, 36)] mk10C (mk10G W0.heap.size xs m k) (by kernel_rfl) hS ?_ ?_ ?_ ?_
     ·
      intro F' W W' h hm hF
      exact hm.below h h.size (fun b hb => by have := hF b hb; have := hb0.size; omega)
     ·
      intro p hp
      simp only [List.mem_cons, List.not_mem_nil, or_false] at hp
      rcases hp with rfl | rfl | rfl | rfl | rfl
      all_goals
       intro y y' F1 F' W W' h hF hm hap hF' e he
       simp only [mk10G] at h ⊢
       rw [e]
       exact mrksR.mod h hm (fun b hb hf => hap b hf hb)
     ·
      intro p hp
      simp only [List.mem_cons, List.not_mem_nil, or_false] at hp
      rcases hp with rfl | rfl | rfl | rfl | rfl
      all_goals
       refine ⟨_, rfl, rfl, ?_⟩
       intro y W Φ hSW hBW hd K hK
      ·
       clear hd
       refine ⟨?_⟩
       simp only [over, Act.put, jA, jB, jC, List.map_cons, List.map_nil, List.foldl_cons, List.foldl_nil, jD, jE, jF] at hK ⊢
       go_simp
       refine hK _ _ (fun b => b = W.heap.size) (Mod.of_below (qBq)) (fun b hb => .inr (by rw [hb]; simp)) ?_
       simp only [mk10G, updV]
       exact lit12M W _ hBW.size
      ·
       have g0 := (hd (0, 23) (by simp) (by kernel_rfl) (.inl (by simp [mk10C]))).2
       clear hd
       simp only [mk10G] at g0
       refine ⟨?_⟩
       simp only [over, Act.put, jA, jB, jC, List.map_cons, List.map_nil, List.foldl_cons, List.foldl_nil, jD, jE, jF] at hK ⊢
       refine ite_wantedG rfl ?_
       refine wp_app12M W ?hg1 (.tmp 23) (.tmp 26) ?ho1 W0.heap.size (y 23) (Φ 0) ([]) ?hs1 (.slice (some ⟨g, 0, none⟩) k cap) (xs.take k) ?hx1 g0 (HS1.out W hSW) (by have := HT1.out; simp only [List.length_append, List.length_cons, List.length_nil]; omega) hBW.size ?_
       case hg1 => rfl
       case ho1 => rfl
       case hs1 => rfl
       case hx1 => rfl
       intro v' w' F' hO hm hl
       rw [List.nil_append] at hO
       refine hK _ _ F' (hm.mono (fun b hb => ⟨0, by simp [mk10C], hb⟩)) (fun b hb => (hl b hb).imp (fun h => ⟨0, by simp [mk10C], h⟩) (fun h => h)) ?_
       simp only [mk10G, updV]
       simpa using hO
      ·
       clear hd
       refine ⟨?_⟩
       simp only [over, Act.put, jA, jB, jC, List.map_cons, List.map_nil, List.foldl_cons, List.foldl_nil, jD, jE, jF] at hK ⊢
       go_simp
       refine hK _ _ (fun b => b = W.heap.size) (Mod.of_below (qBq)) (fun b hb => .inr (by rw [hb]; simp)) ?_
       simp only [mk10G, updV]
       exact lit12M1 W _ m hBW.size
      ·
       have g0 := (hd (4, 27) (by simp) (by kernel_rfl) (.inl (by simp [mk10C]))).2
       have g1 := (hd (8, 31) (by simp) (by kernel_rfl) (.inr (by decide))).2
       clear hd
       simp only [mk10G] at g0 g1
       have hsrc := appAny_mrks10 (mrksR.ofO g1)
       refine ⟨?_⟩
       simp only [over, Act.put, jA, jB, jC, List.map_cons, List.map_nil, List.foldl_cons, List.foldl_nil, jD, jE, jF] at hK ⊢
       refine ite_wantedG rfl ?_
       refine wp_app12M W ?hg1 (.tmp 27) (.tmp 31) ?ho1 W0.heap.size (y 27) (Φ 4) (xs.take k) ?hs1 (y 31) [m] ?hx1 g0 hsrc (by have := HT1.out.1; simp only [List.length_cons, List.length_nil]; omega) hBW.size ?_
       case hg1 => rfl
       case ho1 => rfl
       case hs1 => rfl
       case hx1 => rfl
       intro v' w' F' hO hm hl
       refine hK _ _ F' (hm.mono (fun b hb => ⟨4, by simp [mk10C], hb⟩)) (fun b hb => (hl b hb).imp (fun h => ⟨4, by simp [mk10C], h⟩) (fun h => h)) ?_
       simp only [mk10G, updV]
       simpa using hO
      ·
       have g0 := (hd (9, 32) (by simp) (by kernel_rfl) (.inl (by simp [mk10C]))).2
       clear hd
       simp only [mk10G] at g0
       refine ⟨?_⟩
       simp only [over, Act.put, jA, jB, jC, List.map_cons, List.map_nil, List.foldl_cons, List.foldl_nil, jD, jE, jF] at hK ⊢
       refine ite_wantedG rfl ?_
       refine wp_app12M W ?hg1 (.tmp 32) (.tmp 35) ?ho1 W0.heap.size (y 32) (Φ 9) (xs.take k ++ [m]) ?hs1 (.slice (some ⟨g, k * 2, none⟩) (n - k) (cap - k)) (xs.drop k) ?hx1 g0 (HS2.out W hSW) (by have := HT1.out; simp only [List.length_append, List.length_cons, List.length_nil]; omega) hBW.size ?_
       case hg1 => rfl
       case ho1 => rfl
       case hs1 => rfl
       case hx1 => rfl
       intro v' w' F' hO hm hl
       skip
       refine hK _ _ F' (hm.mono (fun b hb => ⟨9, by simp [mk10C], hb⟩)) (fun b hb => (hl b hb).imp (fun h => ⟨9, by simp [mk10C], h⟩) (fun h => h)) ?_
       simp only [mk10G, updV]
       simpa using hO
     ·
      refine ⟨_, rfl, ?_⟩
      intro y W Φ hSW hBW hd hap K hK
      have g13 := (hd (13, 36) (by simp) (by decide)).2
      clear hd hap
      simp only [mk10G] at g13
      have hz := hBW.size
      have hz0 := hb0.size
      have HOf : Hid (mrksR.O W W0.heap.size (Φ 13) (y 36) (xs.take k ++ [m] ++ xs.drop k)) := g13
      have hz1 := hbl.size
      have hBE : Below w.heap.size w W := bS hbl (bS hb0 hBW)
      refine ⟨?_⟩
      simp only [over, Act.put, jA, jB, jC, List.map_cons, List.map_nil, List.foldl_cons, List.foldl_nil, jD, jE, jF]
      clear g13 hS hSW
      go_simp
      refine hK _ _ ?_
      clear hK K
      refine NoPanic.normal ?_
      go_wp2
      refine bodyPost_ret (v := y 36) (by simp [results, Tryz.results68, go_sem]) rfl ⟨_, Φ 13, rfl, ?_, hBE⟩
      rw [HP.out]
      exact mrksR.base HOf.out (by omega)
    ·
     have hkn : k = n := by omega
     subst hkn
     clear hgo hlt
     by_cases hck : cap = k
     ·
      subst hck
      have c3 : (cap : Int) ≤ cap := by omega
      have HS1 : Hid (∀ W, Below wr.heap.size wr W → AppAny W (.slice (some ⟨g, 0, none⟩) cap cap) (xs.take cap).length (mrksC (xs.take cap))) := fun W hW => by
       have h := mrks_piece (owns_below HOw.out hW) 0 cap cap (by rw [HN.out]; omega)
       rw [List.drop_zero] at h
       rw [show (xs.take cap).length = cap by rw [List.length_take, HN.out]; omega]
       simpa using h
      have HS2 : Hid (∀ W, Below wr.heap.size wr W → AppAny W (.slice (some ⟨g, 0, none⟩) 0 0) (xs.drop cap).length (mrksC (xs.drop cap))) := fun W hW => by
       rw [show xs.drop cap = [] from List.drop_eq_nil_of_le (by rw [HN.out]; exact Nat.le_refl _)]; exact any_none10 _ _ _
      have HT1 : Hid ((xs.take cap).length ≤ 1048576 ∧ (xs.drop cap).length ≤ 1048576) := ⟨by rw [List.length_take, HN.out]; omega, by rw [List.length_drop, HN.out]; omega⟩
      go_wp2
      refine wp_region_noPanic ?_
      refine region_upto (fun W => Below wr.heap.size wr W) 14 (by kernel_rfl) (qBq) (fun hS => ?_)
      refine tK (i := 1) (v := ?_) rfl (by kernel_rfl) hS ?_ ?_
      rotate_left
      ·
       intro wS hSw; (try dsimp only at hSw); go_simp; try with_reducible rfl
      try simp only [Act.put, jA, jB, jC, jD, jE, jF]
      refine tK (i := 2) (v := ?_) rfl (by kernel_rfl) hS ?_ ?_
      rotate_left
      ·
       intro wS hSw; (try dsimp only at hSw); go_simp; try with_reducible rfl
      try simp only [Act.put, jA, jB, jC, jD, jE, jF]
      refine tK (i := 3) (v := ?_) rfl (by kernel_rfl) hS ?_ ?_
      rotate_left
      ·
       intro wS hSw; (try dsimp only at hSw); go_simp; try with_reducible rfl
      try simp only [Act.put, jA, jB, jC, jD, jE, jF]
      refine tK (i := 5) (v := ?_) rfl (by kernel_rfl) hS ?_ ?_
      rotate_left
      ·
       intro wS hSw; (try dsimp only at hSw); go_simp; try with_reducible rfl
      try simp only [Act.put, jA, jB, jC, jD, jE, jF]
      refine tK (i := 6) (v := ?_) rfl (by kernel_rfl) hS ?_ ?_
      rotate_left
      ·
       intro wS hSw; (try dsimp only at hSw); go_simp; try with_reducible rfl
      try simp only [Act.put, jA, jB, jC, jD, jE, jF]
      refine tK (i := 7) (v := ?_) rfl (by kernel_rfl) hS ?_ ?_
      rotate_left
      ·
       intro wS hSw; (try dsimp only at hSw); go_simp; try with_reducible rfl
      try simp only [Act.put, jA, jB, jC, jD, jE, jF]
      refine tK (i := 10) (v := ?_) rfl (by kernel_rfl) hS ?_ ?_
      rotate_left
      ·
       intro wS hSw; (try dsimp only at hSw); go_simp; try with_reducible rfl
      try simp only [Act.put, jA, jB, jC, jD, jE, jF]
      refine tK (i := 11) (v := ?_) rfl (by kernel_rfl) hS ?_ ?_
      rotate_left
      ·
       intro wS hSw; (try dsimp only at hSw); go_simp; try with_reducible rfl
      try simp only [Act.put, jA, jB, jC, jD, jE, jF]
      refine tK (i := 12) (v := ?_) rfl (by kernel_rfl) hS ?_ ?_
      rotate_left
      ·
       intro wS hSw; (try dsimp only at hSw); go_simp; try with_reducible rfl
      try simp only [Act.put, jA, jB, jC, jD, jE, jF]
      have hb0 : Below wr.heap.size wr wr.drew := Below.drew (Below.refl _ _)
      generalize wr.drew = W0 at *
      refine upto_cons' [(0, 23), (4, 27), (8, 31), (9, 32), (13, 36)] mk10C (mk10G W0.heap.size xs m cap) (by kernel_rfl) hS ?_ ?_ ?_ ?_
      ·
       intro F' W W' h hm hF
       exact hm.below h h.size (fun b hb => by have := hF b hb; have := hb0.size; omega)
      ·
       intro p hp
       simp only [List.mem_cons, List.not_mem_nil, or_false] at hp
       rcases hp with rfl | rfl | rfl | rfl | rfl
       all_goals
        intro y y' F1 F' W W' h hF hm hap hF' e he
        simp only [mk10G] at h ⊢
        rw [e]
        exact mrksR.mod h hm (fun b hb hf => hap b hf hb)
      ·
       intro p hp
       simp only [List.mem_cons, List.not_mem_nil, or_false] at hp
       rcases hp with rfl | rfl | rfl | rfl | rfl
       all_goals
        refine ⟨_, rfl, rfl, ?_⟩
        intro y W Φ hSW hBW hd K hK
       ·
        clear hd
        refine ⟨?_⟩
        simp only [over, Act.put, jA, jB, jC, List.map_cons, List.map_nil, List.foldl_cons, List.foldl_nil, jD, jE, jF] at hK ⊢
        go_simp
        refine hK _ _ (fun b => b = W.heap.size) (Mod.of_below (qBq)) (fun b hb => .inr (by rw [hb]; simp)) ?_
        simp only [mk10G, updV]
        exact lit12M W _ hBW.size
       ·
        have g0 := (hd (0, 23) (by simp) (by kernel_rfl) (.inl (by simp [mk10C]))).2
        clear hd
        simp only [mk10G] at g0
        refine ⟨?_⟩
        simp only [over, Act.put, jA, jB, jC, List.map_cons, List.map_nil, List.foldl_cons, List.foldl_nil, jD, jE, jF] at hK ⊢
        refine ite_wantedG rfl ?_
        refine wp_app12M W ?hg1 (.tmp 23) (.tmp 26) ?ho1 W0.heap.size (y 23) (Φ 0) ([]) ?hs1 (.slice (some ⟨g, 0, none⟩) cap cap) (xs.take cap) ?hx1 g0 (HS1.out W hSW) (by have := HT1.out; simp only [List.length_append, List.length_cons, List.length_nil]; omega) hBW.size ?_
        case hg1 => rfl
        case ho1 => rfl
        case hs1 => rfl
        case hx1 => rfl
        intro v' w' F' hO hm hl
        rw [List.nil_append] at hO
        refine hK _ _ F' (hm.mono (fun b hb => ⟨0, by simp [mk10C], hb⟩)) (fun b hb => (hl b hb).imp (fun h => ⟨0, by simp [mk10C], h⟩) (fun h => h)) ?_
        simp only [mk10G, updV]
        simpa using hO
       ·
        clear hd
        refine ⟨?_⟩
        simp only [over, Act.put, jA, jB, jC, List.map_cons, List.map_nil, List.foldl_cons, List.foldl_nil, jD, jE, jF] at hK ⊢
        go_simp
        refine hK _ _ (fun b => b = W.heap.size) (Mod.of_below (qBq)) (fun b hb => .inr (by rw [hb]; simp)) ?_
        simp only [mk10G, updV]
        exact lit12M1 W _ m hBW.size
       ·
        have g0 := (hd (4, 27) (by simp) (by kernel_rfl) (.inl (by simp [mk10C]))).2
        have g1 := (hd (8, 31) (by simp) (by kernel_rfl) (.inr (by decide))).2
        clear hd
        simp only [mk10G] at g0 g1
        have hsrc := appAny_mrks10 (mrksR.ofO g1)
        refine ⟨?_⟩
        simp only [over, Act.put, jA, jB, jC, List.map_cons, List.map_nil, List.foldl_cons, List.foldl_nil, jD, jE, jF] at hK ⊢
        refine ite_wantedG rfl ?_
        refine wp_app12M W ?hg1 (.tmp 27) (.tmp 31) ?ho1 W0.heap.size (y 27) (Φ 4) (xs.take cap) ?hs1 (y 31) [m] ?hx1 g0 hsrc (by have := HT1.out.1; simp only [List.length_cons, List.length_nil]; omega) hBW.size ?_
        case hg1 => rfl
        case ho1 => rfl
        case hs1 => rfl
        case hx1 => rfl
        intro v' w' F' hO hm hl
        refine hK _ _ F' (hm.mono (fun b hb => ⟨4, by simp [mk10C], hb⟩)) (fun b hb => (hl b hb).imp (fun h => ⟨4, by simp [mk10C], h⟩) (fun h => h)) ?_
        simp only [mk10G, updV]
        simpa using hO
       ·
        have g0 := (hd (9, 32) (by simp) (by kernel_rfl) (.inl (by simp [mk10C]))).2
        clear hd
        simp only [mk10G] at g0
        refine ⟨?_⟩
        simp only [over, Act.put, jA, jB, jC, List.map_cons, List.map_nil, List.foldl_cons, List.foldl_nil, jD, jE, jF] at hK ⊢
        refine ite_wantedG rfl ?_
        refine wp_app12M W ?hg1 (.tmp 32) (.tmp 35) ?ho1 W0.heap.size (y 32) (Φ 9) (xs.take cap ++ [m]) ?hs1 (.slice (some ⟨g, 0, none⟩) 0 0) (xs.drop cap) ?hx1 g0 (HS2.out W hSW) (by have := HT1.out; simp only [List.length_append, List.length_cons, List.length_nil]; omega) hBW.size ?_
        case hg1 => rfl
        case ho1 => rfl
        case hs1 => rfl
        case hx1 => rfl
        intro v' w' F' hO hm hl
        skip
        refine hK _ _ F' (hm.mono (fun b hb => ⟨9, by simp [mk10C], hb⟩)) (fun b hb => (hl b hb).imp (fun h => ⟨9, by simp [mk10C], h⟩) (fun h => h)) ?_
        simp only [mk10G, updV]
        simpa using hO
      ·
       refine ⟨_, rfl, ?_⟩
       intro y W Φ hSW hBW hd hap K hK
       have g13 := (hd (13, 36) (by simp) (by decide)).2
       clear hd hap
       simp only [mk10G] at g13
       have hz := hBW.size
       have hz0 := hb0.size
       have HOf : Hid (mrksR.O W W0.heap.size (Φ 13) (y 36) (xs.take cap ++ [m] ++ xs.drop cap)) := g13
       have hz1 := hbl.size
       have hBE : Below w.heap.size w W := bS hbl (bS hb0 hBW)
       refine ⟨?_⟩
       simp only [over, Act.put, jA, jB, jC, List.map_cons, List.map_nil, List.foldl_cons, List.foldl_nil, jD, jE, jF]
       clear g13 hS hSW
       go_simp
       refine hK _ _ ?_
       clear hK K
       refine NoPanic.normal ?_
       go_wp2
       refine bodyPost_ret (v := y 36) (by simp [results, Tryz.results68, go_sem]) rfl ⟨_, Φ 13, rfl, ?_, hBE⟩
       rw [HP.out]
       exact mrksR.base HOf.out (by omega)
     ·
      have hdm : True := trivial
      have c2 : ¬ cap = k := by omega
      have c3 : (k : Int) ≤ cap := by omega
      have c1 : k ≤ cap := by omega
      have c4 : (k : Int) ≤ k := by omega
      have HS1 : Hid (∀ W, Below wr.heap.size wr W → AppAny W (.slice (some ⟨g, 0, none⟩) k cap) (xs.take k).length (mrksC (xs.take k))) := fun W hW => by
       have h := mrks_piece (owns_below HOw.out hW) 0 k cap (by rw [HN.out]; omega)
       rw [List.drop_zero] at h
       rw [show (xs.take k).length = k by rw [List.length_take, HN.out]; omega]
       simpa using h
      have HS2 : Hid (∀ W, Below wr.heap.size wr W → AppAny W (.slice (some ⟨g, k * 2, none⟩) (0) (cap - k)) (xs.drop k).length (mrksC (xs.drop k))) := fun W hW => by
       have h := mrks_piece (owns_below HOw.out hW) k (0) (cap - k) (by rw [HN.out]; omega)
       rw [List.take_of_length_le (by rw [List.length_drop, HN.out]; omega)] at h
       rw [show (xs.drop k).length = 0 by rw [List.length_drop, HN.out] <;> omega]
       exact h
      have HT1 : Hid ((xs.take k).length ≤ 1048576 ∧ (xs.drop k).length ≤ 1048576) := ⟨by rw [List.length_take, HN.out]; omega, by rw [List.length_drop, HN.out]; omega⟩
      go_wp2
      refine wp_region_noPanic ?_
      refine region_upto (fun W => Below wr.heap.size wr W) 14 (by kernel_rfl) (qBq) (fun hS => ?_)
      refine tK (i := 1) (v := ?_) rfl (by kernel_rfl) hS ?_ ?_
      rotate_left
      ·
       intro wS hSw; (try dsimp only at hSw); go_simp; try with_reducible rfl
      try simp only [Act.put, jA, jB, jC, jD, jE, jF]
      refine tK (i := 2) (v := ?_) rfl (by kernel_rfl) hS ?_ ?_
      rotate_left
      ·
       intro wS hSw; (try dsimp only at hSw); go_simp; try with_reducible rfl
      try simp only [Act.put, jA, jB, jC, jD, jE, jF]
      refine tK (i := 3) (v := ?_) rfl (by kernel_rfl) hS ?_ ?_
      rotate_left
      ·
       intro wS hSw; (try dsimp only at hSw); go_simp; try with_reducible rfl
      try simp only [Act.put, jA, jB, jC, jD, jE, jF]
      refine tK (i := 5) (v := ?_) rfl (by kernel_rfl) hS ?_ ?_
      rotate_left
      ·
       intro wS hSw; (try dsimp only at hSw); go_simp; try with_reducible rfl
      try simp only [Act.put, jA, jB, jC, jD, jE, jF]
      refine tK (i := 6) (v := ?_) rfl (by kernel_rfl) hS ?_ ?_
      rotate_left
      ·
       intro wS hSw; (try dsimp only at hSw); go_simp; try with_reducible rfl
      try simp only [Act.put, jA, jB, jC, jD, jE, jF]
      refine tK (i := 7) (v := ?_) rfl (by kernel_rfl) hS ?_ ?_
      rotate_left
      ·
       intro wS hSw; (try dsimp only at hSw); go_simp; try with_reducible rfl
      try simp only [Act.put, jA, jB, jC, jD, jE, jF]
      refine tK (i := 10) (v := ?_) rfl (by kernel_rfl) hS ?_ ?_
      rotate_left
      ·
       intro wS hSw; (try dsimp only at hSw); go_simp; try with_reducible rfl
      try simp only [Act.put, jA, jB, jC, jD, jE, jF]
      refine tK (i := 11) (v := ?_) rfl (by kernel_rfl) hS ?_ ?_
      rotate_left
      ·
       intro wS hSw; (try dsimp only at hSw); go_simp; try with_reducible rfl
      try simp only [Act.put, jA, jB, jC, jD, jE, jF]
      refine tK (i := 12) (v := ?_) rfl (by kernel_rfl) hS ?_ ?_
      rotate_left
      ·
       intro wS hSw; (try dsimp only at hSw); go_simp; try with_reducible rfl
      try simp only [Act.put, jA, jB, jC, jD, jE, jF]
      have hb0 : Below wr.heap.size wr wr.drew := Below.drew (Below.refl _ _)
      generalize wr.drew = W0 at *
      refine upto_cons' [(0, 23), (4, 27), (8, 31), (9, 32), (13, 36)] mk10C (mk10G W0.heap.size xs m k) (by kernel_rfl) hS ?_ ?_ ?_ ?_
      ·
       intro F' W W' h hm hF
       exact hm.below h h.size (fun b hb => by have := hF b hb; have := hb0.size; omega)
      ·
       intro p hp
       simp only [List.mem_cons, List.not_mem_nil, or_false] at hp
       rcases hp with rfl | rfl | rfl | rfl | rfl
       all_goals
        intro y y' F1 F' W W' h hF hm hap hF' e he
        simp only [mk10G] at h ⊢
        rw [e]
        exact mrksR.mod h hm (fun b hb hf => hap b hf hb)
      ·
       intro p hp
       simp only [List.mem_cons, List.not_mem_nil, or_false] at hp
       rcases hp with rfl | rfl | rfl | rfl | rfl
       all_goals
        refine ⟨_, rfl, rfl, ?_⟩
        intro y W Φ hSW hBW hd K hK
       ·
        clear hd
        refine ⟨?_⟩
        simp only [over, Act.put, jA, jB, jC, List.map_cons, List.map_nil, List.foldl_cons, List.foldl_nil, jD, jE, jF] at hK ⊢
        go_simp
        refine hK _ _ (fun b => b = W.heap.size) (Mod.of_below (qBq)) (fun b hb => .inr (by rw [hb]; simp)) ?_
        simp only [mk10G, updV]
        exact lit12M W _ hBW.size
       ·
        have g0 := (hd (0, 23) (by simp) (by kernel_rfl) (.inl (by simp [mk10C]))).2
        clear hd
        simp only [mk10G] at g0
        refine ⟨?_⟩
        simp only [over, Act.put, jA, jB, jC, List.map_cons, List.map_nil, List.foldl_cons, List.foldl_nil, jD, jE, jF] at hK ⊢
        refine ite_wantedG rfl ?_
        refine wp_app12M W ?hg1 (.tmp 23) (.tmp 26) ?ho1 W0.heap.size (y 23) (Φ 0) ([]) ?hs1 (.slice (some ⟨g, 0, none⟩) k cap) (xs.take k) ?hx1 g0 (HS1.out W hSW) (by have := HT1.out; simp only [List.length_append, List.length_cons, List.length_nil]; omega) hBW.size ?_
        case hg1 => rfl
        case ho1 => rfl
        case hs1 => rfl
        case hx1 => rfl
        intro v' w' F' hO hm hl
        rw [List.nil_append] at hO
        refine hK _ _ F' (hm.mono (fun b hb => ⟨0, by simp [mk10C], hb⟩)) (fun b hb => (hl b hb).imp (fun h => ⟨0, by simp [mk10C], h⟩) (fun h => h)) ?_
        simp only [mk10G, updV]
        simpa using hO
       ·
        clear hd
        refine ⟨?_⟩
        simp only [over, Act.put, jA, jB, jC, List.map_cons, List.map_nil, List.foldl_cons, List.foldl_nil, jD, jE, jF] at hK ⊢
        go_simp
        refine hK _ _ (fun b => b = W.heap.size) (Mod.of_below (qBq)) (fun b hb => .inr (by rw [hb]; simp)) ?_
        simp only [mk10G, updV]
        exact lit12M1 W _ m hBW.size
       ·
        have g0 := (hd (4, 27) (by simp) (by kernel_rfl) (.inl (by simp [mk10C]))).2
        have g1 := (hd (8, 31) (by simp) (by kernel_rfl) (.inr (by decide))).2
        clear hd
        simp only [mk10G] at g0 g1
        have hsrc := appAny_mrks10 (mrksR.ofO g1)
        refine ⟨?_⟩
        simp only [over, Act.put, jA, jB, jC, List.map_cons, List.map_nil, List.foldl_cons, List.foldl_nil, jD, jE, jF] at hK ⊢
        refine ite_wantedG rfl ?_
        refine wp_app12M W ?hg1 (.tmp 27) (.tmp 31) ?ho1 W0.heap.size (y 27) (Φ 4) (xs.take k) ?hs1 (y 31) [m] ?hx1 g0 hsrc (by have := HT1.out.1; simp only [List.length_cons, List.length_nil]; omega) hBW.size ?_
        case hg1 => rfl
        case ho1 => rfl
        case hs1 => rfl
        case hx1 => rfl
        intro v' w' F' hO hm hl
        refine hK _ _ F' (hm.mono (fun b hb => ⟨4, by simp [mk10C], hb⟩)) (fun b hb => (hl b hb).imp (fun h => ⟨4, by simp [mk10C], h⟩) (fun h => h)) ?_
        simp only [mk10G, updV]
        simpa using hO
       ·
        have g0 := (hd (9, 32) (by simp) (by kernel_rfl) (.inl (by simp [mk10C]))).2
        clear hd
        simp only [mk10G] at g0
        refine ⟨?_⟩
        simp only [over, Act.put, jA, jB, jC, List.map_cons, List.map_nil, List.foldl_cons, List.foldl_nil, jD, jE, jF] at hK ⊢
        refine ite_wantedG rfl ?_
        refine wp_app12M W ?hg1 (.tmp 32) (.tmp 35) ?ho1 W0.heap.size (y 32) (Φ 9) (xs.take k ++ [m]) ?hs1 (.slice (some ⟨g, k * 2, none⟩) (0) (cap - k)) (xs.drop k) ?hx1 g0 (HS2.out W hSW) (by have := HT1.out; simp only [List.length_append, List.length_cons, List.length_nil]; omega) hBW.size ?_
        case hg1 => rfl
        case ho1 => rfl
        case hs1 => rfl
        case hx1 => rfl
        intro v' w' F' hO hm hl
        skip
        refine hK _ _ F' (hm.mono (fun b hb => ⟨9, by simp [mk10C], hb⟩)) (fun b hb => (hl b hb).imp (fun h => ⟨9, by simp [mk10C], h⟩) (fun h => h)) ?_
        simp only [mk10G, updV]
        simpa using hO
      ·
       refine ⟨_, rfl, ?_⟩
       intro y W Φ hSW hBW hd hap K hK
       have g13 := (hd (13, 36) (by simp) (by decide)).2
       clear hd hap
       simp only [mk10G] at g13
       have hz := hBW.size
       have hz0 := hb0.size
       have HOf : Hid (mrksR.O W W0.heap.size (Φ 13) (y 36) (xs.take k ++ [m] ++ xs.drop k)) := g13
       have hz1 := hbl.size
       have hBE : Below w.heap.size w W := bS hbl (bS hb0 hBW)
       refine ⟨?_⟩
       simp only [over, Act.put, jA, jB, jC, List.map_cons, List.map_nil, List.foldl_cons, List.foldl_nil, jD, jE, jF]
       clear g13 hS hSW
       go_simp
       refine hK _ _ ?_
       clear hK K
       refine NoPanic.normal ?_
       go_wp2
       refine bodyPost_ret (v := y 36) (by simp [results, Tryz.results68, go_sem]) rfl ⟨_, Φ 13, rfl, ?_, hBE⟩
       rw [HP.out]
       exact mrksR.base HOf.out (by omega)
end Go.Proofs.YtndghenlapbaaaaGreat

