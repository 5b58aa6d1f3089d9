import Derived.Test.YteppnppknfldbaaPrnAgreesLaw11
import Derived.Test.YteppnppknfldbaaPrnAgreesLaw17
import Derived.BigQuiet
import Derived.Deep.QuietTactic
import Derived.Deep.RegionHeld3
import Derived.Test.YteppnppknfldbaaPrnAgreesLaw10
import Derived.Test.YteppnppknfldbaaPrnAgreesLaw4
import Derived.Test.YteppnppknfldbaaPrnAgreesLaw8

/-
  A slot put in its place, the program's.
-/
set_option linter.unusedSimpArgs false
set_option linter.unusedVariables false
namespace Go.Proofs.Yteppnppknfldbaa
open Go.RowKit
set_option linter.unusedSectionVars false
variable [DecidableEq Vot] [Inhabited Vot] [DecidableEq Slt] [Inhabited Slt] [DecidableEq Bal] [Inhabited Bal] [DecidableEq Ledg] [Inhabited Ledg] [DecidableEq Leg] [Inhabited Leg] [DecidableEq Acc] [Inhabited Acc] [DecidableEq SltR] [Inhabited SltR] [DecidableEq AccR] [Inhabited AccR] [DecidableEq AccsR] [Inhabited AccsR] [DecidableEq SltsR] [Inhabited SltsR]
attribute [local go_sem ↓] Go.wp_at_zero Go.wp_at_succ

set_option maxRecDepth 20000 in
set_option maxHeartbeats 4000000 in
theorem withSlot_u (x : Value) (d : Acc) (s : Slt) (p : Option Addr) (q base : Nat) (Fs : Nat → Prop) (w : World) (hx : accR.V w x d) (hok : AccOk d.slots) (hu : sltR.O w base Fs (.agg #[.int .i64 s.con, .int .i64 s.sh, .int .i64 s.pr, .int .i64 s.lb, .int .i64 s.lv, .slice p s.cast.length q]) s) (hbase : base ≤ w.heap.size) (hw : ∀ k, k < d.slots.length → (d.slots.getD k default).cast.length ≤ 1048576) :
    Calls Try.prog 46 #[x, .agg #[.int .i64 s.con, .int .i64 s.sh, .int .i64 s.pr, .int .i64 s.lb, .int .i64 s.lv, .slice p s.cast.length q]] w fun e w' => ∃ v F, e = .returned v ∧ accR.O w' base F v ⟨putS d.slots s⟩ ∧ Below w.heap.size w w' := by
  have hX := hx
  obtain ⟨u1, rfl, hx⟩ := hx
  obtain ⟨xs⟩ := d
  dsimp only at hx hok hX hw ⊢
  have hlen := hok.len
  have HCp : Hid (∀ W, Below w.heap.size w W → Calls Try.prog 14 #[.agg #[u1]] W fun e w' => ∃ v F, e = .returned v ∧ accR.O w' W.heap.size F v ⟨xs⟩ ∧ Below W.heap.size W w') := fun W hW => copiedAcc_u _ ⟨xs⟩ W (accR.below hX hW) (by dsimp only; omega) hw
  have HPl : Hid (∀ W y, accR.V W y ⟨xs⟩ → Calls Try.prog 35 #[y, .agg #[.int .i64 s.con, .int .i64 s.sh, .int .i64 s.pr, .int .i64 s.lb, .int .i64 s.lv, .slice p s.cast.length q]] W fun e w' => PlE xs s W e w') := fun W y hy => placeIn_any y ⟨xs⟩ s _ W hy hok
  have HU : Hid (sltR.O w base Fs (.agg #[.int .i64 s.con, .int .i64 s.sh, .int .i64 s.pr, .int .i64 s.lb, .int .i64 s.lv, .slice p s.cast.length q]) s) := hu
  clear hu hX hok hw
  obtain ⟨au, cu, rfl⟩ := slts_form hx
  clear hx
  obtain ⟨n, hn'⟩ : ∃ n, n = xs.length := ⟨_, rfl⟩
  have HN : Hid (xs.length = n) := hn'.symm
  rw [← hn'] at hlen HCp ⊢
  clear hn'
  go_enter Try.func46, Try.ntmps46
  go_wp2_with fail
  refine (HCp.out _ (by (repeat (first | exact Below.refl _ _ | assumption | refine Below.drew ?_ | refine balloc ?_ _ | refine bset ?_ (by simp; omega) _ | refine bset ?_ (by simp) _ | refine bstep ?_ (by assumption))))).mono ?_
  rintro e w1 ⟨v1, F1, rfl, o1, hb1⟩
  obtain ⟨ac, cc, rfl, _⟩ := acc_cells o1
  have hB1 : Below w.heap.size w w1 := by (repeat (first | exact Below.refl _ _ | assumption | refine Below.drew ?_ | refine balloc ?_ _ | refine bset ?_ (by simp; omega) _ | refine bset ?_ (by simp) _ | refine bstep ?_ (by assumption)))
  have hz1 := hb1.size
  simp at hz1
  obtain ⟨c1, f1⟩ := bcell hb1
  have q0 : w1.cell? ⟨w.heap.size + 1, 0, none⟩ = some (.int .i64 s.con) := cell_keep hb1 (by simp [go_sem])
  have q1 : w1.cell? ⟨w.heap.size + 1, 1, none⟩ = some (.int .i64 s.sh) := cell_keep hb1 (by simp [go_sem])
  have q2 : w1.cell? ⟨w.heap.size + 1, 2, none⟩ = some (.int .i64 s.pr) := cell_keep hb1 (by simp [go_sem])
  have q3 : w1.cell? ⟨w.heap.size + 1, 3, none⟩ = some (.int .i64 s.lb) := cell_keep hb1 (by simp [go_sem])
  have q4 : w1.cell? ⟨w.heap.size + 1, 4, none⟩ = some (.int .i64 s.lv) := cell_keep hb1 (by simp [go_sem])
  have q5 : w1.cell? ⟨w.heap.size + 1, 5, none⟩ = some (.slice p s.cast.length q) := cell_keep hb1 (by simp [go_sem])
  have r0 : w1.cell? ⟨w.heap.size + 2, 0, none⟩ = some (.slice none 0 0) := cell_keep hb1 (by simp [go_sem])
  have rf : ∀ o, w1.frozen? ⟨w.heap.size + 2, o, none⟩ = false := fun o => by rw [f1 _ _ (by simp; try omega)]; simp [go_sem]
  have HO1 : Hid (sltsR.O w1 (w.heap.size + 3) F1 (.slice ac n cc) xs) := by
    obtain ⟨u, F2, e, h1, hF⟩ := o1
    simp only [Value.agg.injEq, Array.mk.injEq, List.cons.injEq, and_true] at e
    subst e
    have hFF : F1 = F2 := by funext b; exact propext (hF b)
    subst hFF
    rw [← HN.out]
    exact sltsR.base h1 (by simp)
  have HV1 : Hid (∀ W, Below w1.heap.size w1 W → accR.V W (.agg #[.slice ac n cc]) ⟨xs⟩) := fun W hW => accR.below (by rw [← HN.out]; exact accR.ofO o1) hW
  clear o1 hb1 c1 f1 HCp
  dsimp only
  rw [HN.out]
  have zq : w.heap.size + 1 < w1.heap.size := World.block_lt_of_cell? w1 _ q0
  have zr : w.heap.size + 2 < w1.heap.size := World.block_lt_of_cell? w1 _ r0
  go_wp2_with fail
  refine (HPl.out _ _ (HV1.out _ (by (repeat (first | exact Below.refl _ _ | assumption | refine Below.drew ?_ | refine balloc ?_ _ | refine bset ?_ (by simp; omega) _ | refine bset ?_ (by simp) _ | refine bstep ?_ (by assumption)))))).mono ?_
  rintro e w2 ⟨i, hi, rfl, h1, h2, hb2⟩
  have HA : Hid (∀ k, k < i → cmpS (xs.getD k default) s < 0) := h1
  have HB : Hid (∀ k, i ≤ k → k < xs.length → 0 ≤ cmpS (xs.getD k default) s) := h2
  clear h1 h2 HPl HV1
  have hB2 : Below w1.heap.size w1 w2 := by (repeat (first | exact Below.refl _ _ | assumption | refine Below.drew ?_ | refine balloc ?_ _ | refine bset ?_ (by simp; omega) _ | refine bset ?_ (by simp) _ | refine bstep ?_ (by assumption)))
  have hBw : Below w.heap.size w w2 := bstep hB1 hB2
  have hz2 := hb2.size
  simp at hz2
  have t0 : w2.cell? ⟨w1.heap.size, 0, none⟩ = some (.slice ac n cc) := cell_keep hb2 (by simp [go_sem])
  have tf : ∀ o, w2.frozen? ⟨w1.heap.size, o, none⟩ = false := fun o => by rw [(bcell hb2).2 _ _ (by simp)]; simp [go_sem]
  replace q0 := cell_keep hB2 q0
  replace q1 := cell_keep hB2 q1
  replace q2 := cell_keep hB2 q2
  replace q3 := cell_keep hB2 q3
  replace q4 := cell_keep hB2 q4
  replace q5 := cell_keep hB2 q5
  replace r0 := cell_keep hB2 r0
  replace rf : ∀ o, w2.frozen? ⟨w.heap.size + 2, o, none⟩ = false := fun o => by rw [(bcell hB2).2 _ _ (by omega)]; exact rf o
  have HO2 : Hid (sltsR.O w2 (w.heap.size + 3) F1 (.slice ac n cc) xs) := sltsR.keep HO1.out hB2
  have HU2 : Hid (sltR.O w2 base Fs (.agg #[.int .i64 s.con, .int .i64 s.sh, .int .i64 s.pr, .int .i64 s.lb, .int .i64 s.lv, .slice p s.cast.length q]) s) := sltR.keep HU.out hBw
  have HFl : Hid (∀ b, F1 b → w.heap.size + 3 ≤ b ∧ b < w1.heap.size) := fun b hb => sltsR.rng HO1.out b hb
  have HFs : Hid (∀ b, Fs b → b < w.heap.size) := fun b hb => (sltR.rng HU.out b hb).2
  have HD : Hid (∀ b, F1 b → ¬ Fs b) := fun b h1 h2 => by have := HFl.out b h1; have := HFs.out b h2; omega
  have HO3 : Hid (sltsR.O w2 (w.heap.size + 3) F1 (.slice ac xs.length cc) xs) := by show sltsR.O _ _ _ _ _; rw [HN.out]; exact HO2.out
  clear hb2 HO1 HU
  rw [HN.out] at hi
  by_cases hD : i < xs.length ∧ cmpS (xs.getD i default) s = 0
  · rw [decide_eq_true hD]
    have HS : Hid (putS xs s = xs.set i s) := putS_found HA.out hD.1 hD.2
    have hin : i < n := by rw [← HN.out]; exact hD.1
    clear hD
    have hrow : ∃ g, ac = some ⟨g, 0, none⟩ ∧ F1 g ∧ ∀ o, w2.frozen? ⟨g, o, none⟩ = false := by
      obtain ⟨cs, us, fs, hp, hF⟩ := HO3.out
      rcases hp.row.2 with ⟨_, h⟩ | ⟨g, cap, cur, h, _⟩
      · rw [HN.out] at h; omega
      · simp only [Value.slice.injEq] at h
        obtain ⟨rfl, _, rfl⟩ := h
        exact ⟨g, rfl, (hF g).2 (.inl rfl), fun o => hp.row.frozenAt o⟩
    obtain ⟨g, rfl, hg, gf⟩ := hrow
    have hgr := HFl.out g hg
    have hst := slts_store (base := base) (i := i) (sltsR.base HO3.out (by omega)) (by rw [HN.out]; exact hin) HU2.out HD.out
    obtain ⟨F3, o3, hm3, hF3⟩ := hst
    rw [HN.out] at o3
    have gcell : ∀ j, j < n * 6 → ∃ v, w2.cell? ⟨g, j, none⟩ = some v := fun j hj => by
      obtain ⟨cs, us, fs, hp, hF⟩ := HO3.out
      have h1 := hp.row.cellAt j (by rw [HN.out]; exact hj)
      have hl : j < cs.length := by rw [hp.row.1, HN.out]; exact hj
      rw [List.getElem?_eq_getElem hl] at h1
      exact ⟨_, h1⟩
    obtain ⟨k0, e0⟩ := gcell (i * 6) (by omega)
    obtain ⟨k1, e1⟩ := gcell (i * 6 + 1) (by omega)
    obtain ⟨k2, e2⟩ := gcell (i * 6 + 2) (by omega)
    obtain ⟨k3, e3⟩ := gcell (i * 6 + 3) (by omega)
    obtain ⟨k4, e4⟩ := gcell (i * 6 + 4) (by omega)
    obtain ⟨k5, e5⟩ := gcell (i * 6 + 5) (by omega)
    clear gcell
    have zg : g < w2.heap.size := World.block_lt_of_cell? w2 _ e0
    go_wp2
    refine bodyPost_ret (v := .agg #[.slice (some ⟨g, 0, none⟩) n cc]) ?_ rfl ⟨_, F3, rfl, ⟨_, F3, rfl, ?_, fun b => Iff.rfl⟩, ?_⟩
    · simp [results, Try.results46, go_sem, r0, rf, e0, e1, e2, e3, e4, e5, gf]
    · rw [HS.out]
      exact Rep.setN _ o3 _ (fun hb => by
        rcases hF3 _ hb with h | h
        · have := HFl.out _ h; dsimp only at this; omega
        · have := HFs.out _ h; dsimp only at this; omega)
    · exact bset (hm3.below hBw (by omega) (fun b hb => by omega)) (by dsimp only; omega) _
  · rw [decide_eq_false hD]
    have HS : Hid (putS xs s = xs.take i ++ [s] ++ xs.drop i) := putS_miss (by rw [HN.out]; exact hi) HA.out HB.out hD
    clear hD
    have HI : Hid (∀ W, W = w2.alloc (.cells #[.int .i64 s.con, .int .i64 s.sh, .int .i64 s.pr, .int .i64 s.lb, .int .i64 s.lv, .slice p s.cast.length q] 43) → Calls Try.prog 54 #[.slice ac n cc, .int .i64 i, .slice (some ⟨w2.heap.size, 0, none⟩) 1 1] W fun e w' =>
        ∃ v' F', e = .returned v' ∧ sltsR.O w' base F' v' (xs.take i ++ [s] ++ xs.drop i) ∧ Mod (fun b => (Value.slice ac n cc).ownBlock = some b) W w' ∧ (∀ b, F' b → F1 b ∨ Fs b ∨ W.heap.size ≤ b)) := fun W hW => by
      subst hW
      refine insertS_any base _ i _ xs _ s F1 Fs _ (sltsR.alloc (sltsR.base HO2.out (by omega)) _) (by rw [HN.out]; exact hi) (by rw [HN.out]; omega) (by simp; omega) (sltR.alloc HU2.out _) HD.out (by rw [heap_newS]; rfl) (fun e => ?_)
      obtain ⟨cs, us, fs, hp, hF⟩ := HO2.out
      have := (hp.row.lt _ e).2
      omega
    have HOb : Hid (∀ b, (Value.slice ac n cc).ownBlock = some b → F1 b) := fun b hb => by
      obtain ⟨cs, us, fs, hp, hF⟩ := HO2.out
      exact (hF b).2 (.inl hb)
    go_wp2_with fail
    refine (HI.out _ rfl).mono ?_
    rintro e w5 ⟨v5, F5, rfl, o5, hm5, hF5⟩
    obtain ⟨a5, c5, rfl⟩ := slts_form (sltsR.ofO o5)
    have HO5 : Hid (sltsR.O w5 base F5 (.slice a5 (n + 1) c5) (xs.take i ++ [s] ++ xs.drop i)) := by
      show sltsR.O _ _ _ _ _
      rw [len_ins, HN.out] at o5
      exact o5
    have HF5 : Hid (∀ b, F5 b → F1 b ∨ Fs b ∨ w2.heap.size + 1 ≤ b) := fun b hb => by simpa using hF5 b hb
    rw [len_ins, HN.out]
    have t5 : w5.cell? ⟨w1.heap.size, 0, none⟩ = some (.slice ac n cc) := hm5.cell (cell_keep (balloc (Below.refl _ w2) _) t0) (fun e => by have := HFl.out _ (HOb.out _ e); dsimp only at this; omega)
    have tf5 : ∀ o, w5.frozen? ⟨w1.heap.size, o, none⟩ = false := fun o => (hm5.frozen9 (a := ⟨w1.heap.size, o, none⟩) (by simp; omega) (fun e => by have := HFl.out _ (HOb.out _ e); dsimp only at this; omega)).trans (by rw [(bcell (balloc (Below.refl _ w2) _)).2 _ _ (by omega)]; exact tf o)
    have r5 : w5.cell? ⟨w.heap.size + 2, 0, none⟩ = some (.slice none 0 0) := hm5.cell (cell_keep (balloc (Below.refl _ w2) _) r0) (fun e => by have := HFl.out _ (HOb.out _ e); dsimp only at this; omega)
    have rf5 : ∀ o, w5.frozen? ⟨w.heap.size + 2, o, none⟩ = false := fun o => (hm5.frozen9 (a := ⟨w.heap.size + 2, o, none⟩) (by simp; omega) (fun e => by have := HFl.out _ (HOb.out _ e); dsimp only at this; omega)).trans (by rw [(bcell (balloc (Below.refl _ w2) _)).2 _ _ (by omega)]; exact rf o)
    have hB5 : Below w.heap.size w w5 := hm5.below (balloc hBw _) (by simp; omega) (fun b e => by have := HFl.out _ (HOb.out _ e); omega)
    have z5 := hm5.size
    simp at z5
    clear o5 hm5 hF5 t0 tf r0 rf HI q0 q1 q2 q3 q4 q5
    go_wp2
    refine bodyPost_ret (v := .agg #[.slice a5 (n + 1) c5]) ?_ rfl ⟨_, F5, rfl, ⟨_, F5, rfl, ?_, fun b => Iff.rfl⟩, ?_⟩
    · simp [results, Try.results46, go_sem, r5, rf5, t5, tf5]
    · rw [HS.out]
      refine Rep.setN _ (Rep.setN _ HO5.out _ (fun hb => ?_)) _ (fun hb => ?_)
      · rcases HF5.out _ hb with h | h | h
        · have := HFl.out _ h; dsimp only at this; omega
        · have := HFs.out _ h; dsimp only at this; omega
        · dsimp only at h; omega
      · rcases HF5.out _ hb with h | h | h
        · have := HFl.out _ h; dsimp only at this; omega
        · have := HFs.out _ h; dsimp only at this; omega
        · dsimp only at h; omega
    · exact bset (bset hB5 (by dsimp only; omega) _) (by dsimp only; omega) _
end Go.Proofs.Yteppnppknfldbaa

/-
  The slot that is asked, the program's.
-/
set_option linter.unusedSimpArgs false
set_option linter.unusedVariables false
namespace Go.Proofs.Yteppnppknfldbaa
open Go.RowKit
set_option linter.unusedSectionVars false
variable [DecidableEq Vot] [Inhabited Vot] [DecidableEq Slt] [Inhabited Slt] [DecidableEq SltR] [Inhabited SltR] [DecidableEq Bal] [Inhabited Bal] [DecidableEq Ledg] [Inhabited Ledg] [DecidableEq Leg] [Inhabited Leg] [DecidableEq Acc] [Inhabited Acc] [DecidableEq AccR] [Inhabited AccR] [DecidableEq AccsR] [Inhabited AccsR] [DecidableEq SltsR] [Inhabited SltsR]
attribute [local go_sem ↓] Go.wp_at_zero Go.wp_at_succ

theorem slotO_found {xs : List Slt} {q : Slt} {i : Nat} (hi : i < xs.length) (h1 : ∀ k, k < i → cmpS (xs.getD k default) q < 0) (h : cmpS (xs.getD i default) q = 0) : slotO xs q = xs.getD i default := by
  refine slotO_at hi (fun k hk => ?_) (sameS_iff.2 (cmpS_eq.1 h))
  cases e : sameS (xs.getD k default) q with
  | false => rfl
  | true => have h2 := h1 k hk; rw [cmpS_eq.2 (sameS_iff.1 e)] at h2; omega
theorem slotO_miss {xs : List Slt} {q : Slt} {i : Nat} (hok : AccOk xs) (h1 : ∀ k, k < i → cmpS (xs.getD k default) q < 0) (h2 : ∀ k, i ≤ k → k < xs.length → 0 ≤ cmpS (xs.getD k default) q) (h : ¬ (i < xs.length ∧ cmpS (xs.getD i default) q = 0)) : slotO xs q = q := by
  refine slotO_none (fun k hk => ?_)
  cases e : sameS (xs.getD k default) q with
  | false => rfl
  | true =>
    exfalso
    have e0 := sameS_iff.1 e
    have e1 := cmpS_eq.2 e0
    rcases Nat.lt_trichotomy k i with h3 | h3 | h3
    · have := h1 k h3; omega
    · subst h3; exact h ⟨hk, e1⟩
    · have h4 := aheadS_iff.1 (hok.ord i k h3 hk)
      have h5 := h2 i (Nat.le_refl _) (by omega)
      have h6 : cmpS (xs.getD i default) q < 0 := by rw [cmpS_lt]; omega
      omega
set_option maxRecDepth 20000 in
set_option maxHeartbeats 4000000 in
theorem slotOr_any (x y : Value) (d : Acc) (q : Slt) (w : World) (hx : accR.V w x d) (hy : sltR.V w y q) (hok : AccOk d.slots) :
    Calls Try.prog 20 #[x, y] w fun e w' => ∃ v, e = .returned v ∧ sltR.V w' v (slotO d.slots q) ∧ Below w.heap.size w w' := by
  have hX := hx
  have hY := hy
  obtain ⟨u1, rfl, hx⟩ := hx
  obtain ⟨u2, rfl, hy⟩ := hy
  obtain ⟨ay, cy, rfl⟩ := vots_form hy
  clear hy
  obtain ⟨xs⟩ := d
  dsimp only at hx hok hX ⊢
  have HP : Hid (∀ W, Below w.heap.size w W → Calls Try.prog 35 #[.agg #[u1], .agg #[.int .i64 q.con, .int .i64 q.sh, .int .i64 q.pr, .int .i64 q.lb, .int .i64 q.lv, .slice ay q.cast.length cy]] W fun e w' => PlE xs q W e w') := fun W hW => placeIn_any _ ⟨xs⟩ q _ W (accR.below hX hW) hok
  have HOK : Hid (AccOk xs) := hok
  clear hX hok
  obtain ⟨au, cu, rfl, hcx, hmx, hx⟩ := hx
  unfold maxLen at hmx
  have hXs : Hid (∀ k, k < xs.length → ∃ b o p q, au = some ⟨b, o, none⟩ ∧ (w.cell? ⟨b, o + k * 6, none⟩ = some (.int .i64 (xs.getD k default).con) ∧ w.cell? ⟨b, o + k * 6 + 1, none⟩ = some (.int .i64 (xs.getD k default).sh) ∧ w.cell? ⟨b, o + k * 6 + 2, none⟩ = some (.int .i64 (xs.getD k default).pr) ∧ w.cell? ⟨b, o + k * 6 + 3, none⟩ = some (.int .i64 (xs.getD k default).lb) ∧ w.cell? ⟨b, o + k * 6 + 4, none⟩ = some (.int .i64 (xs.getD k default).lv) ∧ w.cell? ⟨b, o + k * 6 + 5, none⟩ = some (.slice p (xs.getD k default).cast.length q)) ∧ sltR.V w (.agg #[.int .i64 (xs.getD k default).con, .int .i64 (xs.getD k default).sh, .int .i64 (xs.getD k default).pr, .int .i64 (xs.getD k default).lb, .int .i64 (xs.getD k default).lv, .slice p (xs.getD k default).cast.length q]) (xs.getD k default)) := fun k hk => slts_at hx hk
  clear hx
  obtain ⟨n, hn'⟩ : ∃ n, n = xs.length := ⟨_, rfl⟩
  have HN : Hid (xs.length = n) := hn'.symm
  rw [← hn'] at hcx hXs HP ⊢
  clear hn'
  go_enter Try.func20, Try.ntmps20
  go_wp2_with fail
  refine (HP.out _ (by (repeat (first | exact Below.refl _ _ | assumption | refine Below.drew ?_ | refine balloc ?_ _ | refine bset ?_ (by simp; omega) _ | refine bset ?_ (by simp) _ | refine bstep ?_ (by assumption))))).mono ?_
  rintro e w1 ⟨i, hi, rfl, h1, h2, hb1⟩
  have hB1 : Below w.heap.size w w1 := by (repeat (first | exact Below.refl _ _ | assumption | refine Below.drew ?_ | refine balloc ?_ _ | refine bset ?_ (by simp; omega) _ | refine bset ?_ (by simp) _ | refine bstep ?_ (by assumption)))
  have HA : Hid (∀ k, k < i → cmpS (xs.getD k default) q < 0) := h1
  have HB : Hid (∀ k, i ≤ k → k < xs.length → 0 ≤ cmpS (xs.getD k default) q) := h2
  clear h1 h2 HP
  obtain ⟨c1, f1⟩ := bcell hb1
  have hz1 := hb1.size
  simp at hz1
  have y0 : w1.cell? ⟨w.heap.size, 0, none⟩ = some (.slice au n cu) := cell_keep hb1 (by simp [go_sem])
  have q0 : w1.cell? ⟨w.heap.size + 1, 0, none⟩ = some (.int .i64 q.con) := cell_keep hb1 (by simp [go_sem])
  have q1 : w1.cell? ⟨w.heap.size + 1, 1, none⟩ = some (.int .i64 q.sh) := cell_keep hb1 (by simp [go_sem])
  have q2 : w1.cell? ⟨w.heap.size + 1, 2, none⟩ = some (.int .i64 q.pr) := cell_keep hb1 (by simp [go_sem])
  have q3 : w1.cell? ⟨w.heap.size + 1, 3, none⟩ = some (.int .i64 q.lb) := cell_keep hb1 (by simp [go_sem])
  have q4 : w1.cell? ⟨w.heap.size + 1, 4, none⟩ = some (.int .i64 q.lv) := cell_keep hb1 (by simp [go_sem])
  have q5 : w1.cell? ⟨w.heap.size + 1, 5, none⟩ = some (.slice ay q.cast.length cy) := cell_keep hb1 (by simp [go_sem])
  have r0 : w1.cell? ⟨w.heap.size + 2, 0, none⟩ = some (.int .i64 0) := cell_keep hb1 (by simp [go_sem])
  have r1 : w1.cell? ⟨w.heap.size + 2, 1, none⟩ = some (.int .i64 0) := cell_keep hb1 (by simp [go_sem])
  have r2 : w1.cell? ⟨w.heap.size + 2, 2, none⟩ = some (.int .i64 0) := cell_keep hb1 (by simp [go_sem])
  have r3 : w1.cell? ⟨w.heap.size + 2, 3, none⟩ = some (.int .i64 0) := cell_keep hb1 (by simp [go_sem])
  have r4 : w1.cell? ⟨w.heap.size + 2, 4, none⟩ = some (.int .i64 0) := cell_keep hb1 (by simp [go_sem])
  have r5 : w1.cell? ⟨w.heap.size + 2, 5, none⟩ = some (.slice none 0 0) := cell_keep hb1 (by simp [go_sem])
  have rf : ∀ o, w1.frozen? ⟨w.heap.size + 2, o, none⟩ = false := fun o => by rw [f1 _ _ (by simp; try omega)]; simp [go_sem]
  clear hb1 c1 f1
  rw [HN.out] at hi
  by_cases hD : i < xs.length ∧ cmpS (xs.getD i default) q = 0
  · rw [decide_eq_true hD]
    have HS : Hid (slotO xs q = xs.getD i default) := slotO_found hD.1 HA.out hD.2
    have hin : i < n := by rw [← HN.out]; exact hD.1
    clear hD
    obtain ⟨b, o, pp, qq, rfl, hc, hV⟩ := hXs.out i hin
    obtain ⟨l, hl⟩ : ∃ l, l = xs.getD i default := ⟨_, rfl⟩
    rw [← hl] at hc hV HS
    clear hl hXs
    obtain ⟨g0, g1, g2, g3, g4, g5⟩ := (sltKeep2 hB1 hc hc).2.1
    clear hc
    have zb : b < w1.heap.size := World.block_lt_of_cell? w1 _ g0
    go_wp2
    refine bodyPost_ret (v := .agg #[.int .i64 l.con, .int .i64 l.sh, .int .i64 l.pr, .int .i64 l.lb, .int .i64 l.lv, .slice pp l.cast.length qq]) ?_ rfl ⟨_, rfl, by rw [HS.out]; exact sltR.below hV (by (repeat (first | refine bset ?_ (by simp; omega) _ | refine bset ?_ (by simp) _ | refine balloc ?_ _ | assumption))), by (repeat (first | refine bset ?_ (by simp; omega) _ | refine bset ?_ (by simp) _ | refine balloc ?_ _ | assumption))⟩
    simp [results, Try.results20, go_sem, r0, r1, r2, r3, r4, r5, rf]
  · rw [decide_eq_false hD]
    have HS : Hid (slotO xs q = q) := slotO_miss HOK.out HA.out HB.out hD
    clear hD hXs
    go_wp2
    refine bodyPost_ret (v := .agg #[.int .i64 q.con, .int .i64 q.sh, .int .i64 q.pr, .int .i64 q.lb, .int .i64 q.lv, .slice ay q.cast.length cy]) ?_ rfl ⟨_, rfl, by rw [HS.out]; exact sltR.below hY (by (repeat (first | refine bset ?_ (by simp; omega) _ | refine bset ?_ (by simp) _ | refine balloc ?_ _ | assumption))), by (repeat (first | refine bset ?_ (by simp; omega) _ | refine bset ?_ (by simp) _ | refine balloc ?_ _ | assumption))⟩
    simp [results, Try.results20, go_sem, r0, r1, r2, r3, r4, r5, rf]
end Go.Proofs.Yteppnppknfldbaa

/-
  What an acceptor answers.
-/
set_option linter.unusedSimpArgs false
set_option linter.unusedVariables false
namespace Go.Proofs.Yteppnppknfldbaa
open Go.RowKit
set_option linter.unusedSectionVars false
variable [DecidableEq Vot] [Inhabited Vot] [DecidableEq Slt] [Inhabited Slt] [DecidableEq Bal] [Inhabited Bal] [DecidableEq Ledg] [Inhabited Ledg] [DecidableEq Leg] [Inhabited Leg] [DecidableEq Acc] [Inhabited Acc] [DecidableEq SltR] [Inhabited SltR] [DecidableEq AccR] [Inhabited AccR] [DecidableEq AccsR] [Inhabited AccsR] [DecidableEq SltsR] [Inhabited SltsR]
attribute [local go_sem ↓] Go.wp_at_zero Go.wp_at_succ

def askD (ans : Slt → SltR) (xs : List Slt) (c s : Int) : AccR := if accF xs = 0 then (if idOk c s = true then toldD xs (ans (slotO xs (freS c s))) else errA 3) else errA (accF xs)
theorem errA_O (w : World) (base : Nat) (c : Int) : ∃ F, accRR.O w base F (.agg #[.int .i64 c, .int .i64 0, .int .i64 0, .slice none 0 0]) (errA c) :=
  ⟨_, _, _, rfl, ⟨_, _, rfl, slts_nil w base, fun _ => Iff.rfl⟩, fun _ => Iff.rfl⟩
theorem accOk_cast {xs : List Slt} (h : AccOk xs) : ∀ k, k < xs.length → (xs.getD k default).cast.length ≤ 1048576 := fun k hk => by
  have := (sltOk_of (h.ok k hk)).len
  omega
theorem sltR_cells {w : World} {base : Nat} {F : Nat → Prop} {u : Value} {r : SltR} (h : sltRR.O w base F u r) : ∃ p q, u = .agg #[.int .i64 r.code, .int .i64 r.ob, .int .i64 r.ov, .int .i64 r.slot.con, .int .i64 r.slot.sh, .int .i64 r.slot.pr, .int .i64 r.slot.lb, .int .i64 r.slot.lv, .slice p r.slot.cast.length q] ∧ sltR.O w base F (.agg #[.int .i64 r.slot.con, .int .i64 r.slot.sh, .int .i64 r.slot.pr, .int .i64 r.slot.lb, .int .i64 r.slot.lv, .slice p r.slot.cast.length q]) r.slot := by
  obtain ⟨u1, F1, rfl, h1, hF⟩ := h
  have hFF : F = F1 := by funext b; exact propext (hF b)
  subst hFF
  obtain ⟨p, q, e, _⟩ := slt_cells h1
  simp only [Value.agg.injEq, Array.mk.injEq, List.cons.injEq, and_true, true_and] at e
  subst e
  exact ⟨p, q, rfl, h1⟩
theorem accR_cells {w : World} {base : Nat} {F : Nat → Prop} {u : Value} {r : AccR} (h : accRR.O w base F u r) : ∃ p q, u = .agg #[.int .i64 r.code, .int .i64 r.ob, .int .i64 r.ov, .slice p r.acc.slots.length q] ∧ accR.O w base F (.agg #[.slice p r.acc.slots.length q]) r.acc := by
  obtain ⟨u1, F1, rfl, h1, hF⟩ := h
  have hFF : F = F1 := by funext b; exact propext (hF b)
  subst hFF
  obtain ⟨p, q, e, _⟩ := acc_cells h1
  simp only [Value.agg.injEq, Array.mk.injEq, List.cons.injEq, and_true] at e
  subst e
  exact ⟨p, q, rfl, h1⟩
def AskE (r : AccR) (w : World) (e : Ending) (w' : World) : Prop := ∃ v F, e = .returned v ∧ accRR.O w' w.heap.size F v r ∧ Below w.heap.size w w'
theorem askE_err {r : AccR} {c : Int} {w w' : World} (h : r = errA c) (hb : Below w.heap.size w w') : AskE r w (.returned (.agg #[.int .i64 c, .int .i64 0, .int .i64 0, .slice none 0 0])) w' := by
  obtain ⟨F, h0⟩ := errA_O w' w.heap.size c
  exact ⟨_, F, rfl, by rw [h]; exact h0, hb⟩
end Go.Proofs.Yteppnppknfldbaa

/-
  askAt, the program's.
-/
set_option linter.unusedSimpArgs false
set_option linter.unusedVariables false
namespace Go.Proofs.Yteppnppknfldbaa
open Go.RowKit
set_option linter.unusedSectionVars false
variable [DecidableEq Vot] [Inhabited Vot] [DecidableEq Slt] [Inhabited Slt] [DecidableEq Bal] [Inhabited Bal] [DecidableEq Ledg] [Inhabited Ledg] [DecidableEq Leg] [Inhabited Leg] [DecidableEq Acc] [Inhabited Acc] [DecidableEq SltR] [Inhabited SltR] [DecidableEq AccR] [Inhabited AccR] [DecidableEq AccsR] [Inhabited AccsR] [DecidableEq SltsR] [Inhabited SltsR]
attribute [local go_sem ↓] Go.wp_at_zero Go.wp_at_succ

set_option maxRecDepth 20000 in
set_option maxHeartbeats 4000000 in
theorem askAt_u (ans : Slt → SltR) (qv : Value) (hans : ∀ (W : World) (x : Value) (d : Slt), sltR.V W x d → sltFault d = 0 → Calls Try.prog 45 #[x, qv] W fun e w' => ∃ v F, e = .returned v ∧ sltRR.O w' W.heap.size F v (ans d) ∧ Below W.heap.size W w')
    (x : Value) (d : Acc) (c s : Int) (w : World) (hx : accR.V w x d) :
    Calls Try.prog 34 #[x, .int .i64 c, .int .i64 s, qv] w (AskE (askD ans d.slots c s) w) := by
  have hX := hx
  obtain ⟨u1, rfl, hx⟩ := hx
  obtain ⟨xs⟩ := d
  dsimp only at hx hX ⊢
  have HAF : Hid (∀ W, Below w.heap.size w W → Calls Try.prog 40 #[.agg #[u1]] W fun e w' => e = .returned (.int .i64 (accF xs)) ∧ Below W.heap.size W w') := fun W hW => implAccF_any _ ⟨xs⟩ W (accR.below hX hW)
  have HSo : Hid (∀ W y q, Below w.heap.size w W → AccOk xs → sltR.V W y q → Calls Try.prog 20 #[.agg #[u1], y] W fun e w' => ∃ v, e = .returned v ∧ sltR.V w' v (slotO xs q) ∧ Below W.heap.size W w') := fun W y q hW hok hy => slotOr_any _ y ⟨xs⟩ q W (accR.below hX hW) hy hok
  have HWs : Hid (∀ W r p q base F, Below w.heap.size w W → AccOk xs → sltR.O W base F (.agg #[.int .i64 r.con, .int .i64 r.sh, .int .i64 r.pr, .int .i64 r.lb, .int .i64 r.lv, .slice p r.cast.length q]) r → base ≤ W.heap.size → Calls Try.prog 46 #[.agg #[u1], .agg #[.int .i64 r.con, .int .i64 r.sh, .int .i64 r.pr, .int .i64 r.lb, .int .i64 r.lv, .slice p r.cast.length q]] W fun e w' => ∃ v F, e = .returned v ∧ accR.O w' base F v ⟨putS xs r⟩ ∧ Below W.heap.size W w') := fun W r p q base F hW hok hu hb => withSlot_u _ ⟨xs⟩ r p q base F W (accR.below hX hW) hok hu hb (accOk_cast hok)
  have HAns : Hid (∀ (W : World) (x : Value) (d : Slt), sltR.V W x d → sltFault d = 0 → Calls Try.prog 45 #[x, qv] W fun e w' => ∃ v F, e = .returned v ∧ sltRR.O w' W.heap.size F v (ans d) ∧ Below W.heap.size W w') := hans
  clear hX hans
  obtain ⟨au, cu, rfl⟩ := slts_form hx
  clear hx
  generalize xs.length = n at *
  go_enter Try.func34, Try.ntmps34
  go_wp2_with fail
  refine (HAF.out _ (by (repeat (first | exact Below.refl _ _ | assumption | refine Below.drew ?_ | refine balloc ?_ _ | refine bset ?_ (by simp; omega) _ | refine bset ?_ (by simp) _ | refine bstep ?_ (by assumption))))).mono ?_
  rintro e w1 ⟨rfl, hb1⟩
  have hB1 : Below w.heap.size w w1 := by (repeat (first | exact Below.refl _ _ | assumption | refine Below.drew ?_ | refine balloc ?_ _ | refine bset ?_ (by simp; omega) _ | refine bset ?_ (by simp) _ | refine bstep ?_ (by assumption)))
  have hz1 := hb1.size
  simp at hz1
  obtain ⟨c1, f1⟩ := bcell hb1
  have y0 : w1.cell? ⟨w.heap.size, 0, none⟩ = some (.slice au n cu) := cell_keep hb1 (by simp [go_sem])
  have r0 : w1.cell? ⟨w.heap.size + 1, 0, none⟩ = some (.int .i64 0) := cell_keep hb1 (by simp [go_sem])
  have r1 : w1.cell? ⟨w.heap.size + 1, 1, none⟩ = some (.int .i64 0) := cell_keep hb1 (by simp [go_sem])
  have r2 : w1.cell? ⟨w.heap.size + 1, 2, none⟩ = some (.int .i64 0) := cell_keep hb1 (by simp [go_sem])
  have r3 : w1.cell? ⟨w.heap.size + 1, 3, none⟩ = some (.slice none 0 0) := cell_keep hb1 (by simp [go_sem])
  have rf : ∀ o, w1.frozen? ⟨w.heap.size + 1, o, none⟩ = false := fun o => by rw [f1 _ _ (by simp; try omega)]; simp [go_sem]
  clear hb1 c1 f1 HAF
  by_cases hf : accF xs = 0
  rotate_left
  · have HC : Hid (askD ans xs c s = errA (accF xs)) := by show _ = _; unfold askD; rw [if_neg hf]
    clear HSo HWs HAns
    generalize accF xs = k at *
    go_wp2
    refine bodyPost_ret (v := .agg #[.int .i64 k, .int .i64 0, .int .i64 0, .slice none 0 0]) (by simp [results, Try.results34, go_sem, r0, r1, r2, r3, rf]) rfl (askE_err HC.out (by (repeat (first | refine bset ?_ (by simp; omega) _ | refine bset ?_ (by simp) _ | refine balloc ?_ _ | assumption))))
  rw [hf]
  have HOK : Hid (AccOk xs) := accOk_of hf
  have HF : Hid (accF xs = 0) := hf
  clear hf
  cases hid : idOk c s
  · have HC : Hid (askD ans xs c s = errA 3) := by show _ = _; unfold askD; rw [if_pos HF.out, hid]; rfl
    have HNw : Hid (∀ W, Calls Try.prog 27 #[.int .i64 c, .int .i64 s] W (NewB W)) := fun W => implNew_bad c s W hid
    clear HSo HWs HAns hid
    go_wp2_with fail
    refine (HNw.out _).mono ?_
    rintro e w2 ⟨rfl, hb2⟩
    have hB2 : Below w.heap.size w w2 := bstep hB1 hb2
    have hz2 := hb2.size
    replace y0 := cell_keep hb2 y0
    replace r0 := cell_keep hb2 r0
    replace r1 := cell_keep hb2 r1
    replace r2 := cell_keep hb2 r2
    replace r3 := cell_keep hb2 r3
    replace rf : ∀ o, w2.frozen? ⟨w.heap.size + 1, o, none⟩ = false := fun o => by rw [(bcell hb2).2 _ _ (by omega)]; exact rf o
    clear hb2
    have zr : w.heap.size + 1 < w2.heap.size := World.block_lt_of_cell? w2 _ r0
    go_wp2
    refine bodyPost_ret (v := .agg #[.int .i64 3, .int .i64 0, .int .i64 0, .slice none 0 0]) (by simp [results, Try.results34, go_sem, r0, r1, r2, r3, rf, zr, Nat.ne_of_lt zr]) rfl (askE_err HC.out (by (repeat (first | refine bset ?_ (by simp; omega) _ | refine bset ?_ (by simp) _ | refine balloc ?_ _ | assumption))))
  have HD : Hid (∀ r, ans (slotO xs (freS c s)) = r → askD ans xs c s = toldD xs r) := fun r h => by unfold askD; rw [if_pos HF.out, hid, if_pos rfl, h]
  have HSF : Hid (sltFault (slotO xs (freS c s)) = 0) := slotO_ok HOK.out hid
  have HNw : Hid (∀ W, Calls Try.prog 27 #[.int .i64 c, .int .i64 s] W (NewE c s W)) := fun W => implNew_ok c s W hid
  clear hid HF
  go_wp2_with fail
  refine (HNw.out _).mono ?_
  rintro e w2 ⟨p2, q2, F2, rfl, o2, hb2⟩
  have hB2 : Below w.heap.size w w2 := bstep hB1 hb2
  have hz2 := hb2.size
  have HV2 : Hid (∀ W, Below w2.heap.size w2 W → sltR.V W (.agg #[.int .i64 c, .int .i64 s, .int .i64 (-1), .int .i64 (-1), .int .i64 0, .slice p2 0 q2]) (freS c s)) := fun W hW => sltR.below (sltR.ofO o2) hW
  replace y0 := cell_keep hb2 y0
  replace r0 := cell_keep hb2 r0
  replace r1 := cell_keep hb2 r1
  replace r2 := cell_keep hb2 r2
  replace r3 := cell_keep hb2 r3
  replace rf : ∀ o, w2.frozen? ⟨w.heap.size + 1, o, none⟩ = false := fun o => by rw [(bcell hb2).2 _ _ (by omega)]; exact rf o
  clear hb2 o2 HNw
  have zy : w.heap.size < w2.heap.size := World.block_lt_of_cell? w2 _ y0
  have zr : w.heap.size + 1 < w2.heap.size := World.block_lt_of_cell? w2 _ r0
  go_wp2_with fail
  refine (HSo.out _ _ _ (by (repeat (first | exact Below.refl _ _ | assumption | refine Below.drew ?_ | refine balloc ?_ _ | refine bset ?_ (by simp; omega) _ | refine bset ?_ (by simp) _ | refine bstep ?_ (by assumption)))) HOK.out (HV2.out _ (by (repeat (first | exact Below.refl _ _ | assumption | refine Below.drew ?_ | refine balloc ?_ _ | refine bset ?_ (by simp; omega) _ | refine bset ?_ (by simp) _ | refine bstep ?_ (by assumption)))))).mono ?_
  rintro e w3 ⟨v3, rfl, hv3, hb3⟩
  have hB23 : Below w2.heap.size w2 w3 := by (repeat (first | exact Below.refl _ _ | assumption | refine Below.drew ?_ | refine balloc ?_ _ | refine bset ?_ (by simp; omega) _ | refine bset ?_ (by simp) _ | refine bstep ?_ (by assumption)))
  have hB3 : Below w.heap.size w w3 := bstep hB2 hB23
  have hz3 := hb3.size
  simp at hz3
  replace y0 := cell_keep hB23 y0
  replace r0 := cell_keep hB23 r0
  replace r1 := cell_keep hB23 r1
  replace r2 := cell_keep hB23 r2
  replace r3 := cell_keep hB23 r3
  replace rf : ∀ o, w3.frozen? ⟨w.heap.size + 1, o, none⟩ = false := fun o => by rw [(bcell hB23).2 _ _ (by omega)]; exact rf o
  have HA3 : Hid (∀ W, Below w3.heap.size w3 W → Calls Try.prog 45 #[v3, qv] W fun e w' => ∃ v F, e = .returned v ∧ sltRR.O w' W.heap.size F v (ans (slotO xs (freS c s))) ∧ Below W.heap.size W w') := fun W hW => HAns.out W v3 _ (sltR.below hv3 hW) HSF.out
  clear hb3 hB23 hv3 HSo HAns HV2 HSF
  go_wp2_with fail
  refine (HA3.out _ (by (repeat (first | exact Below.refl _ _ | assumption | refine Below.drew ?_ | refine balloc ?_ _ | refine bset ?_ (by simp; omega) _ | refine bset ?_ (by simp) _ | refine bstep ?_ (by assumption))))).mono ?_
  rintro e w4 ⟨v4, F4, rfl, o4, hb4⟩
  obtain ⟨r, hr⟩ : ∃ r, r = ans (slotO xs (freS c s)) := ⟨_, rfl⟩
  rw [← hr] at o4
  have HDr : Hid (askD ans xs c s = toldD xs r) := HD.out r hr.symm
  clear hr HD HA3
  obtain ⟨p4, q4, rfl, o4s⟩ := sltR_cells o4
  have HO4 : Hid (sltR.O w4 (w.heap.size + 2) F4 (.agg #[.int .i64 r.slot.con, .int .i64 r.slot.sh, .int .i64 r.slot.pr, .int .i64 r.slot.lb, .int .i64 r.slot.lv, .slice p4 r.slot.cast.length q4]) r.slot) := sltR.base o4s (by omega)
  have hB34 : Below w3.heap.size w3 w4 := by (repeat (first | exact Below.refl _ _ | assumption | refine Below.drew ?_ | refine balloc ?_ _ | refine bset ?_ (by simp; omega) _ | refine bset ?_ (by simp) _ | refine bstep ?_ (by assumption)))
  have hB4 : Below w.heap.size w w4 := bstep hB3 hB34
  have hz4 := hb4.size
  replace y0 := cell_keep hB34 y0
  replace r0 := cell_keep hB34 r0
  replace r1 := cell_keep hB34 r1
  replace r2 := cell_keep hB34 r2
  replace r3 := cell_keep hB34 r3
  replace rf : ∀ o, w4.frozen? ⟨w.heap.size + 1, o, none⟩ = false := fun o => by rw [(bcell hB34).2 _ _ (by omega)]; exact rf o
  clear hb4 o4 o4s hB34
  have zy4 : w.heap.size < w4.heap.size := World.block_lt_of_cell? w4 _ y0
  have zr4 : w.heap.size + 1 < w4.heap.size := World.block_lt_of_cell? w4 _ r0
  by_cases hc : r.code = 0
  rotate_left
  · have HC : Hid (askD ans xs c s = errA r.code) := by show _ = _; rw [HDr.out, toldD_code hc]
    have hc' : ((r.code : Int) != 0) = true := by simp [hc]
    clear HWs HO4 HDr
    generalize r.code = k at *
    go_wp2
    refine bodyPost_ret (v := .agg #[.int .i64 k, .int .i64 0, .int .i64 0, .slice none 0 0]) (by simp [results, Try.results34, go_sem, r0, r1, r2, r3, rf, zr4, Nat.ne_of_lt zr4]) rfl (askE_err HC.out (by (repeat (first | refine bset ?_ (by simp; omega) _ | refine bset ?_ (by simp) _ | refine balloc ?_ _ | assumption))))
  rw [hc]
  have HWr : Hid (∀ W, Below w4.heap.size w4 W → Calls Try.prog 46 #[.agg #[.slice au n cu], .agg #[.int .i64 r.slot.con, .int .i64 r.slot.sh, .int .i64 r.slot.pr, .int .i64 r.slot.lb, .int .i64 r.slot.lv, .slice p4 r.slot.cast.length q4]] W fun e w' => ∃ v F, e = .returned v ∧ accR.O w' (w.heap.size + 2) F v ⟨putS xs r.slot⟩ ∧ Below W.heap.size W w') := fun W hW => HWs.out W r.slot p4 q4 (w.heap.size + 2) F4 (bstep hB4 hW) HOK.out (sltR.keep HO4.out hW) (by have := hW.size; omega)
  have HCode : Hid (r.code = 0) := hc
  clear hc HWs HO4
  obtain ⟨ys, hys⟩ : ∃ ys, ys = putS xs r.slot := ⟨_, rfl⟩
  rw [← hys] at HWr
  have HYS : Hid (ys = putS xs r.slot) := hys
  clear hys
  obtain ⟨sl, hsl⟩ : ∃ sl, sl = r.slot := ⟨_, rfl⟩
  rw [← hsl] at HWr HYS ⊢
  have HSL : Hid (sl = r.slot) := hsl
  clear hsl
  obtain ⟨ob, hob⟩ : ∃ ob, ob = r.ob := ⟨_, rfl⟩
  obtain ⟨ov, hov⟩ : ∃ ov, ov = r.ov := ⟨_, rfl⟩
  have HOB : Hid (ob = r.ob ∧ ov = r.ov) := ⟨hob, hov⟩
  rw [← hob, ← hov]
  clear hob hov
  go_wp2_with fail
  refine (HWr.out _ (by (repeat (first | exact Below.refl _ _ | assumption | refine Below.drew ?_ | refine balloc ?_ _ | refine bset ?_ (by simp; omega) _ | refine bset ?_ (by simp) _ | refine bstep ?_ (by assumption))))).mono ?_
  rintro e w5 ⟨v5, F5, rfl, o5, hb5⟩
  obtain ⟨a5, c5, rfl, _⟩ := acc_cells o5
  have HO5 : Hid (accR.O w5 (w.heap.size + 2) F5 (.agg #[.slice a5 ys.length c5]) ⟨ys⟩) := o5
  have hB45 : Below w4.heap.size w4 w5 := by (repeat (first | exact Below.refl _ _ | assumption | refine Below.drew ?_ | refine balloc ?_ _ | refine bset ?_ (by simp; omega) _ | refine bset ?_ (by simp) _ | refine bstep ?_ (by assumption)))
  have hB5 : Below w.heap.size w w5 := bstep hB4 hB45
  have hz5 := hb5.size
  simp at hz5
  have b1 : w5.cell? ⟨w4.heap.size, 1, none⟩ = some (.int .i64 ob) := cell_keep hb5 (by simp [go_sem])
  have b2 : w5.cell? ⟨w4.heap.size, 2, none⟩ = some (.int .i64 ov) := cell_keep hb5 (by simp [go_sem])
  replace y0 := cell_keep hB45 y0
  replace r0 := cell_keep hB45 r0
  replace r1 := cell_keep hB45 r1
  replace r2 := cell_keep hB45 r2
  replace r3 := cell_keep hB45 r3
  replace rf : ∀ o, w5.frozen? ⟨w.heap.size + 1, o, none⟩ = false := fun o => by rw [(bcell hB45).2 _ _ (by omega)]; exact rf o
  clear hb5 o5 HWr hB45
  dsimp only
  have HT : Hid (∀ m, ys.length = m → (60 < m → askD ans xs c s = errA 2) ∧ (¬ 60 < m → askD ans xs c s = ⟨0, ob, ov, ⟨ys⟩⟩)) := fun m hm => by
    subst hm
    refine ⟨fun h => ?_, fun h => ?_⟩
    · rw [HDr.out, toldD_many HCode.out (by rw [← HSL.out, ← HYS.out]; exact h)]
    · rw [HDr.out, toldD_ok HCode.out (by rw [← HSL.out, ← HYS.out]; exact h), ← HSL.out, ← HYS.out, HOB.out.1, HOB.out.2]
  have hlen : ys.length ≤ 61 := by
    have h1 := HOK.out.len
    have h2 := putS_len xs sl
    rw [← HYS.out] at h2
    omega
  have HFl : Hid (∀ b, F5 b → w.heap.size + 2 ≤ b) := fun b hb => (accR.rng HO5.out b hb).1
  obtain ⟨m, hm⟩ : ∃ m, m = ys.length := ⟨_, rfl⟩
  rw [← hm] at hlen HO5 ⊢
  have HT2 := HT.out m hm.symm
  clear hm HT
  have zy5 : w.heap.size < w5.heap.size := World.block_lt_of_cell? w5 _ y0
  have zr5 : w.heap.size + 1 < w5.heap.size := World.block_lt_of_cell? w5 _ r0
  have zb5 : w4.heap.size < w5.heap.size := World.block_lt_of_cell? w5 _ b1
  by_cases h6 : 60 < m
  · have HC : Hid (askD ans xs c s = errA 2) := HT2.1 h6
    have h6' : (60 : Int) < m := by omega
    clear HT2 HO5
    go_wp2
    refine bodyPost_ret (v := .agg #[.int .i64 2, .int .i64 0, .int .i64 0, .slice none 0 0]) (by simp [results, Try.results34, go_sem, r0, r1, r2, r3, rf, zr5, Nat.ne_of_lt zr5]) rfl (askE_err HC.out (by (repeat (first | refine bset ?_ (by simp; omega) _ | refine bset ?_ (by simp) _ | refine balloc ?_ _ | assumption))))
  · have HC : Hid (askD ans xs c s = ⟨0, ob, ov, ⟨ys⟩⟩) := HT2.2 h6
    have h6' : ¬ (60 : Int) < m := by omega
    clear HT2
    go_wp2
    refine bodyPost_ret (v := .agg #[.int .i64 0, .int .i64 ob, .int .i64 ov, .slice a5 m c5]) (by simp [results, Try.results34, go_sem, r0, r1, r2, r3, rf, zr5, Nat.ne_of_lt zr5]) rfl ?_
    refine ⟨_, F5, rfl, ?_, by (repeat (first | refine bset ?_ (by simp; omega) _ | refine bset ?_ (by simp) _ | refine balloc ?_ _ | assumption))⟩
    rw [HC.out]
    refine ⟨_, F5, rfl, ?_, fun b => Iff.rfl⟩
    have hO : accR.O w5 w.heap.size F5 (.agg #[.slice a5 m c5]) ⟨ys⟩ := accR.base HO5.out (by omega)
    have hk : ∀ (W : World) (u : Value) (j : Nat), accR.O W w.heap.size F5 (.agg #[.slice a5 m c5]) ⟨ys⟩ → accR.O (W.setCell ⟨w.heap.size + 1, j, none⟩ u) w.heap.size F5 (.agg #[.slice a5 m c5]) ⟨ys⟩ := fun W u j h => Rep.setN _ h u (fun hb => by have := HFl.out _ hb; dsimp only at this; omega)
    exact accR.alloc (hk _ _ _ (hk _ _ _ (hk _ _ _ (hk _ _ _ hO)))) _
end Go.Proofs.Yteppnppknfldbaa

