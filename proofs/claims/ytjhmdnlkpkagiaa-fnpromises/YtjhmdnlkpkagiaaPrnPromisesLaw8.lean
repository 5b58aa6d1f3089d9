import Derived.Test.YtjhmdnlkpkagiaaPrnPromisesLaw4
import Derived.Test.YtjhmdnlkpkagiaaPrnPromisesLaw7
import Derived.Deep.RegionHeld3
import Derived.Deep.DrawnRows
import Derived.Deep.AppendLies
import Derived.Test.YtjhmdnlkpkagiaaPrnPromisesLaw5
import Derived.Test.YtjhmdnlkpkagiaaPrnPromisesLaw1
import Derived.BigQuiet
import Derived.Deep.QuietTactic

/-
  SlotFault, the specification's.
-/
set_option linter.unusedSimpArgs false
namespace Go.Proofs.Ytjhmdnlkpkagiaa
open Go.RowKit
set_option linter.unusedSectionVars false
variable [DecidableEq Vot] [Inhabited Vot] [DecidableEq Slt] [Inhabited Slt] [DecidableEq Bal] [Inhabited Bal] [DecidableEq Ledg] [Inhabited Ledg] [DecidableEq Leg] [Inhabited Leg]
attribute [local go_sem ↓] Go.wp_at_zero Go.wp_at_succ

set_option maxHeartbeats 1000000 in
theorem l8Last_any (x : Value) (d : Slt) (w : World) (hx : sltR.V w x d) :
    Calls Try.prog 31 #[x] w fun e w' => e = .returned (.agg #[.int .i64 (lastV d.cast d.cast.length).bal, .int .i64 (lastV d.cast d.cast.length).val]) ∧ Below w.heap.size w w' := by
  obtain ⟨u1, rfl, hx⟩ := hx
  obtain ⟨ax, cx, rfl, hcx, hmx, hx⟩ := hx
  unfold maxLen at hmx
  cases hn : d.cast.length with
  | zero =>
    rw [hn] at hcx hx
    clear hx
    rw [lastV_zero]
    go_enter Try.func31, Try.ntmps31
    go_wp2_with fail
    refine (l8None_any _).mono ?_
    rintro e w1 ⟨rfl, hb1⟩
    have hB : Below w.heap.size w w1 := bstep (by (repeat (first | exact Below.refl _ _ | assumption | refine Below.drew ?_ | refine balloc ?_ _ | refine bset ?_ (by simp; omega) _ | refine bset ?_ (by simp) _ | refine bstep ?_ (by assumption)))) hb1
    obtain ⟨c1, f1⟩ := bcell hb1
    go_wp2
    refine bodyPost_ret (v := .agg #[.int .i64 (-1), .int .i64 0]) ?_ rfl ⟨rfl, by (repeat (first | refine bset ?_ (by simp; omega) _ | refine bset ?_ (by simp) _ | refine balloc ?_ _ | assumption))⟩
    simp [results, Try.results31, go_sem, c1]
  | succ m =>
    rw [hn] at hcx hx
    rw [lastV_succ]
    obtain ⟨bx, ox, rfl, g1⟩ := hx m (by omega)
    clear hx
    generalize d.cast.getD m default = l at *
    clear hn
    obtain ⟨g0, g1⟩ := g1
    have v1 : IntKind.i64.wrap (m : Int) = m := wrapId (by omega) (by omega)
    have z5 : bx < w.heap.size := World.block_lt_of_cell? w _ g0
    go_enter Try.func31, Try.ntmps31
    go_wp2
    refine bodyPost_ret (v := .agg #[.int .i64 l.bal, .int .i64 l.val]) ?_ rfl ⟨rfl, by (repeat (first | exact Below.refl _ _ | assumption | refine Below.drew ?_ | refine balloc ?_ _ | refine bset ?_ (by simp; omega) _ | refine bset ?_ (by simp) _ | refine bstep ?_ (by assumption)))⟩
    simp [results, Try.results31, go_sem]
set_option maxHeartbeats 4000000 in
theorem specSlotF_any (x : Value) (d : Slt) (w : World) (hx : sltR.V w x d) :
    Calls Try.prog 16 #[x] w fun e w' => e = .returned (.int .i64 (sltFault d)) ∧ Below w.heap.size w w' := by
  have hX := hx
  obtain ⟨u1, rfl, hx⟩ := hx
  obtain ⟨ax, cx, rfl, hcx, hmx, hx⟩ := hx
  unfold maxLen at hmx
  cases h1 : inB d.con 1 1000000000
  · rw [sltF_range (by simp [sltRange, h1])]
    go_enter Try.func16, Try.ntmps16
    go_wp2_with (first | (go_at_call 29; refine (l1Id_any _ _).mono ?_; rintro e w' ⟨rfl, rfl⟩) | (go_at_call 30; refine (l1In_any _ _ _ _).mono ?_; rintro e w' ⟨rfl, rfl⟩))
    go_ret
    exact ⟨rfl, by (repeat (first | exact Below.refl _ _ | assumption | refine Below.drew ?_ | refine balloc ?_ _ | refine bset ?_ (by simp; omega) _ | refine bset ?_ (by simp) _ | refine bstep ?_ (by assumption)))⟩
  cases h2 : inB d.sh 0 2
  · rw [sltF_range (by simp [sltRange, h2])]
    go_enter Try.func16, Try.ntmps16
    go_wp2_with (first | (go_at_call 29; refine (l1Id_any _ _).mono ?_; rintro e w' ⟨rfl, rfl⟩) | (go_at_call 30; refine (l1In_any _ _ _ _).mono ?_; rintro e w' ⟨rfl, rfl⟩))
    go_ret
    exact ⟨rfl, by (repeat (first | exact Below.refl _ _ | assumption | refine Below.drew ?_ | refine balloc ?_ _ | refine bset ?_ (by simp; omega) _ | refine bset ?_ (by simp) _ | refine bstep ?_ (by assumption)))⟩
  cases h3 : inB d.pr (-1) 1000
  · rw [sltF_range (by simp [sltRange, h3])]
    go_enter Try.func16, Try.ntmps16
    go_wp2_with (first | (go_at_call 29; refine (l1Id_any _ _).mono ?_; rintro e w' ⟨rfl, rfl⟩) | (go_at_call 30; refine (l1In_any _ _ _ _).mono ?_; rintro e w' ⟨rfl, rfl⟩))
    go_ret
    exact ⟨rfl, by (repeat (first | exact Below.refl _ _ | assumption | refine Below.drew ?_ | refine balloc ?_ _ | refine bset ?_ (by simp; omega) _ | refine bset ?_ (by simp) _ | refine bstep ?_ (by assumption)))⟩
  have hR : Hid (sltRange d = true) := by show _ = _; simp [sltRange, h1, h2, h3]
  by_cases h6 : 60 < d.cast.length
  · rw [sltF_many hR.out h6]
    go_enter Try.func16, Try.ntmps16
    go_wp2_with (first | (go_at_call 29; refine (l1Id_any _ _).mono ?_; rintro e w' ⟨rfl, rfl⟩) | (go_at_call 30; refine (l1In_any _ _ _ _).mono ?_; rintro e w' ⟨rfl, rfl⟩))
    go_ret
    exact ⟨rfl, by (repeat (first | exact Below.refl _ _ | assumption | refine Below.drew ?_ | refine balloc ?_ _ | refine bset ?_ (by simp; omega) _ | refine bset ?_ (by simp) _ | refine bstep ?_ (by assumption)))⟩
  obtain ⟨xs, hxs⟩ : ∃ xs, xs = d.cast := ⟨_, rfl⟩
  have HXS : Hid (d.cast = xs) := hxs.symm
  rw [← hxs] at h6 hcx hx hX ⊢
  clear hxs
  obtain ⟨n, hn'⟩ : ∃ n, n = xs.length := ⟨_, rfl⟩
  have HN : Hid (xs.length = n) := hn'.symm
  rw [← hn'] at h6 hcx hx hX ⊢
  clear hn'
  go_enter Try.func16, Try.ntmps16
  go_wp2_with (first | (go_at_call 29; refine (l1Id_any _ _).mono ?_; rintro e w' ⟨rfl, rfl⟩) | (go_at_call 30; refine (l1In_any _ _ _ _).mono ?_; rintro e w' ⟨rfl, rfl⟩))
  go_loopw [3] (fun i w' => ∃ k : Nat, k ≤ n ∧ i = .int .i64 k ∧ scanI (votAt xs) k = 0 ∧ (w'.cell? ⟨w.heap.size, 0, none⟩ = some (.int .i64 d.con) ∧ w'.cell? ⟨w.heap.size, 1, none⟩ = some (.int .i64 d.sh) ∧ w'.cell? ⟨w.heap.size, 2, none⟩ = some (.int .i64 d.pr) ∧ w'.cell? ⟨w.heap.size, 3, none⟩ = some (.int .i64 d.lb) ∧ w'.cell? ⟨w.heap.size, 4, none⟩ = some (.int .i64 d.lv) ∧ w'.cell? ⟨w.heap.size, 5, none⟩ = some (.slice ax n cx)) ∧ Below w.heap.size w w') (fun i _ => n - (intOf i).toNat)
  case atStart => exact ⟨0, Nat.zero_le _, rfl, rfl, ⟨by simp [go_sem], by simp [go_sem], by simp [go_sem], by simp [go_sem], by simp [go_sem], by simp [go_sem]⟩, by (repeat (first | exact Below.refl _ _ | assumption | refine Below.drew ?_ | refine balloc ?_ _ | refine bset ?_ (by simp; omega) _ | refine bset ?_ (by simp) _ | refine bstep ?_ (by assumption)))⟩
  case round =>
    obtain ⟨k, hk, rfl, hs, ⟨c0, c1, c2, c3, c4, c5⟩, hbl⟩ := hrel
    have HS : Hid (scanI (votAt xs) k = 0) := hs
    clear hs
    have z0 : w.heap.size < wr.heap.size := World.block_lt_of_cell? wr _ c0
    by_cases hlt : k < n
    · obtain ⟨bx, ox, rfl, g1⟩ := hx k hlt
      obtain ⟨l, hl⟩ : ∃ l, l = xs.getD k default := ⟨_, rfl⟩
      rw [← hl] at g1
      have HL : Hid (l = xs.getD k default) := hl
      clear hl
      obtain ⟨a1, a2⟩ := votCells_below hbl g1
      cases v1 : inB l.bal 0 1000
      · clear hx
        go_wp2_with (first | (go_at_call 17; refine (l8Ballot_any _ _).mono ?_; rintro e w' ⟨rfl, rfl⟩) | (go_at_call 25; refine (l8Value_any _ _).mono ?_; rintro e w' ⟨rfl, rfl⟩))
        go_ret
        refine ⟨?_, by (repeat (first | exact Below.refl _ _ | assumption | refine Below.drew ?_ | refine balloc ?_ _ | refine bset ?_ (by simp; omega) _ | refine bset ?_ (by simp) _ | refine bstep ?_ (by assumption)))⟩
        rw [sltF_hit (k := k) (c := 3) hR.out (by rw [HXS.out, HN.out]; omega) (by rw [HXS.out, HN.out]; exact hlt) (by rw [HXS.out]; exact HS.out) (by rw [HXS.out]; exact votAt_bad (by rw [← HL.out]; simp [votB, v1])) (by omega)]
        rfl
      cases v2 : inB l.val 1 2
      · clear hx
        go_wp2_with (first | (go_at_call 17; refine (l8Ballot_any _ _).mono ?_; rintro e w' ⟨rfl, rfl⟩) | (go_at_call 25; refine (l8Value_any _ _).mono ?_; rintro e w' ⟨rfl, rfl⟩))
        go_ret
        refine ⟨?_, by (repeat (first | exact Below.refl _ _ | assumption | refine Below.drew ?_ | refine balloc ?_ _ | refine bset ?_ (by simp; omega) _ | refine bset ?_ (by simp) _ | refine bstep ?_ (by assumption)))⟩
        rw [sltF_hit (k := k) (c := 3) hR.out (by rw [HXS.out, HN.out]; omega) (by rw [HXS.out, HN.out]; exact hlt) (by rw [HXS.out]; exact HS.out) (by rw [HXS.out]; exact votAt_bad (by rw [← HL.out]; simp [votB, v2])) (by omega)]
        rfl
      have hok : Hid (votB (xs.getD k default) = true) := by show _ = _; rw [← HL.out]; simp [votB, v1, v2]
      cases k with
      | zero =>
        clear hx
        simp only [Nat.zero_mul, Nat.add_zero] at a1 a2
        go_wp2_with (first | (go_at_call 17; refine (l8Ballot_any _ _).mono ?_; rintro e w' ⟨rfl, rfl⟩) | (go_at_call 25; refine (l8Value_any _ _).mono ?_; rintro e w' ⟨rfl, rfl⟩))
        go_quiet (fail)
        go_wp2
        exact ⟨⟨1, by omega, by go_num, scanI_succ HS.out (votAt_ok hok.out (by rw [lastV_zero]; exact other_none hok.out)), ⟨cell_keep (bdrewN (balloc (Below.refl _ _) _) _) c0, cell_keep (bdrewN (balloc (Below.refl _ _) _) _) c1, cell_keep (bdrewN (balloc (Below.refl _ _) _) _) c2, cell_keep (bdrewN (balloc (Below.refl _ _) _) _) c3, cell_keep (bdrewN (balloc (Below.refl _ _) _) _) c4, cell_keep (bdrewN (balloc (Below.refl _ _) _) _) c5⟩, bdrewN (balloc hbl _) _⟩, by simp [intOf]; omega⟩
      | succ m =>
        obtain ⟨b', o', he, g2⟩ := hx m (by omega)
        simp only [Option.some.injEq, Addr.mk.injEq, and_true] at he
        obtain ⟨rfl, rfl⟩ := he
        obtain ⟨o, ho⟩ : ∃ o, o = xs.getD m default := ⟨_, rfl⟩
        rw [← ho] at g2
        have HO : Hid (o = xs.getD m default) := ho
        clear ho hx
        obtain ⟨d1, d2⟩ := votCells_below hbl g2
        have i1 : (m : Int) < (n : Int) := by omega
        have z5 : bx < wr.heap.size := World.block_lt_of_cell? wr _ d1
        have i2 : m < n := by omega
        have w1 : IntKind.i64.wrap (m : Int) = m := wrapId (by omega) (by omega)
        have hL : Hid (∀ c, votAt xs (m + 1) = c ↔ (if other l o = true then 1 else 0) = c) := by
          intro c
          unfold votAt
          rw [hok.out, lastV_succ, ← HL.out, ← HO.out]
          simp
        by_cases q1 : l.bal < o.bal
        · have e1 : decide (l.bal < o.bal) = true := by simp [q1]
          go_wp2_with (first | (go_at_call 17; refine (l8Ballot_any _ _).mono ?_; rintro e w' ⟨rfl, rfl⟩) | (go_at_call 25; refine (l8Value_any _ _).mono ?_; rintro e w' ⟨rfl, rfl⟩))
          go_quiet (fail)
          go_wp2
          go_ret
          refine ⟨?_, bdrewN (balloc hbl _) _⟩
          rw [sltF_hit (k := m + 1) (c := 1) hR.out (by rw [HXS.out, HN.out]; omega) (by rw [HXS.out, HN.out]; exact hlt) (by rw [HXS.out]; exact HS.out) (by rw [HXS.out]; exact (hL.out 1).2 (by simp [other, q1])) (by omega)]
          rfl
        have e1 : decide (l.bal < o.bal) = false := by simp [q1]
        by_cases q2 : l.bal = o.bal
        · have e2 : (l.bal == o.bal) = true := by simp [q2]
          by_cases q3 : l.val = o.val
          · have e3 : (l.val != o.val) = false := by simp [q3]
            have HQ : Hid (other l o = false) := by show _ = _; simp [other, q2, q3]
            clear q1 q2 q3
            go_wp2_with (first | (go_at_call 17; refine (l8Ballot_any _ _).mono ?_; rintro e w' ⟨rfl, rfl⟩) | (go_at_call 25; refine (l8Value_any _ _).mono ?_; rintro e w' ⟨rfl, rfl⟩))
            go_quiet (fail)
            go_wp2
            exact ⟨⟨m + 1 + 1, by omega, by go_num, scanI_succ HS.out ((hL.out 0).2 (by rw [HQ.out]; rfl)), ⟨cell_keep (bdrewN (balloc (Below.refl _ _) _) _) c0, cell_keep (bdrewN (balloc (Below.refl _ _) _) _) c1, cell_keep (bdrewN (balloc (Below.refl _ _) _) _) c2, cell_keep (bdrewN (balloc (Below.refl _ _) _) _) c3, cell_keep (bdrewN (balloc (Below.refl _ _) _) _) c4, cell_keep (bdrewN (balloc (Below.refl _ _) _) _) c5⟩, bdrewN (balloc hbl _) _⟩, by simp [intOf]; omega⟩
          · have e3 : (l.val != o.val) = true := by simp [q3]
            have HQ : Hid (other l o = true) := by show _ = _; simp [other, q2, q3]
            clear q1 q2 q3
            go_wp2_with (first | (go_at_call 17; refine (l8Ballot_any _ _).mono ?_; rintro e w' ⟨rfl, rfl⟩) | (go_at_call 25; refine (l8Value_any _ _).mono ?_; rintro e w' ⟨rfl, rfl⟩))
            go_quiet (fail)
            go_wp2
            go_ret
            refine ⟨?_, bdrewN (balloc hbl _) _⟩
            rw [sltF_hit (k := m + 1) (c := 1) hR.out (by rw [HXS.out, HN.out]; omega) (by rw [HXS.out, HN.out]; exact hlt) (by rw [HXS.out]; exact HS.out) (by rw [HXS.out]; exact (hL.out 1).2 (by rw [HQ.out]; rfl)) (by omega)]
            rfl
        · have e2 : (l.bal == o.bal) = false := by simp [q2]
          have HQ : Hid (other l o = false) := by show _ = _; simp [other, q1, q2]
          clear q1 q2
          go_wp2_with (first | (go_at_call 17; refine (l8Ballot_any _ _).mono ?_; rintro e w' ⟨rfl, rfl⟩) | (go_at_call 25; refine (l8Value_any _ _).mono ?_; rintro e w' ⟨rfl, rfl⟩))
          go_quiet (fail)
          go_wp2
          exact ⟨⟨m + 1 + 1, by omega, by go_num, scanI_succ HS.out ((hL.out 0).2 (by rw [HQ.out]; rfl)), ⟨cell_keep (bdrewN (balloc (Below.refl _ _) _) _) c0, cell_keep (bdrewN (balloc (Below.refl _ _) _) _) c1, cell_keep (bdrewN (balloc (Below.refl _ _) _) _) c2, cell_keep (bdrewN (balloc (Below.refl _ _) _) _) c3, cell_keep (bdrewN (balloc (Below.refl _ _) _) _) c4, cell_keep (bdrewN (balloc (Below.refl _ _) _) _) c5⟩, bdrewN (balloc hbl _) _⟩, by simp [intOf]; omega⟩
    · have hkn : k = n := by omega
      subst hkn
      have HE : Hid (sltFault d = if (d.lb = (lastV xs k).bal ∧ d.lv = (lastV xs k).val) ∧ d.lb ≤ d.pr then 0 else 1) := by
        show _ = _
        rw [sltF_end hR.out (by rw [HXS.out, HN.out]; omega) (by rw [HXS.out, HN.out]; exact HS.out), HXS.out, HN.out]
      have hLast := fun W h => l8Last_any (.agg #[.int .i64 d.con, .int .i64 d.sh, .int .i64 d.pr, .int .i64 d.lb, .int .i64 d.lv, .slice ax k cx]) d W h
      rw [HXS.out, HN.out] at hLast
      obtain ⟨q, hq⟩ : ∃ q, q = lastV xs k := ⟨_, rfl⟩
      have HQ : Hid (lastV xs k = q) := hq.symm
      rw [← hq] at hLast
      clear hq hx hlt
      have HLast : Hid (∀ W, Below wr.heap.size wr W → Calls Try.prog 31 #[.agg #[.int .i64 d.con, .int .i64 d.sh, .int .i64 d.pr, .int .i64 d.lb, .int .i64 d.lv, .slice ax k cx]] W fun e w' => e = .returned (.agg #[.int .i64 q.bal, .int .i64 q.val]) ∧ Below W.heap.size W w') := fun W h => hLast W (sltR.below hX (bstep hbl h))
      clear hLast hX
      cases he : (decide (d.lb = q.bal) && decide (d.lv = q.val))
      · clear h1 h2 h3
        have heq : ∀ w, (binOp .neq 25 (.agg #[.int .i64 d.lb, .int .i64 d.lv]) (.agg #[.int .i64 q.bal, .int .i64 q.val])).run Try.prog w = .ok (.bool true) w := fun w => by rw [neqVot, he]; rfl
        go_wp2
        refine wp_region_noPanic ?_
        refine region_upto (fun W => Below wr.heap.size wr W ∧ W.cell? ⟨w.heap.size, 0, none⟩ = some (.int .i64 d.con) ∧ W.cell? ⟨w.heap.size, 1, none⟩ = some (.int .i64 d.sh) ∧ W.cell? ⟨w.heap.size, 2, none⟩ = some (.int .i64 d.pr) ∧ W.cell? ⟨w.heap.size, 3, none⟩ = some (.int .i64 d.lb) ∧ W.cell? ⟨w.heap.size, 4, none⟩ = some (.int .i64 d.lv) ∧ W.cell? ⟨w.heap.size, 5, none⟩ = some (.slice ax k cx)) 13 (by kernel_rfl) (keepN6 (by (repeat (first | exact Below.refl _ _ | assumption | refine Below.drew ?_ | refine balloc ?_ _ | refine bset ?_ (by simp; omega) _ | refine bset ?_ (by simp) _ | refine bstep ?_ (by assumption)))) c0 c1 c2 c3 c4 c5) (fun hS => ?_)
        refine upto_takeN (i := 0) (v := ?_) rfl (by kernel_rfl) (by kernel_rfl) (by kernel_rfl) (by kernel_rfl) (fun _ _ _ h => h) (by rfl) hS ?_ ?_
        rotate_left
        · intro wS hSw
          try dsimp only at hSw
          first | (go_simp; done) | (go_simp; with_reducible rfl)
        try simp only [Act.put, List.getElem_toArray, List.getElem_cons_zero, List.getElem_cons_succ, List.setIfInBounds_toArray, List.set_cons_zero, List.set_cons_succ]
        refine upto_takeN (i := 1) (v := ?_) rfl (by kernel_rfl) (by kernel_rfl) (by kernel_rfl) (by kernel_rfl) (fun _ _ _ h => h) (by rfl) hS ?_ ?_
        rotate_left
        · intro wS hSw
          try dsimp only at hSw
          first | (go_simp; done) | (go_simp; with_reducible rfl)
        try simp only [Act.put, List.getElem_toArray, List.getElem_cons_zero, List.getElem_cons_succ, List.setIfInBounds_toArray, List.set_cons_zero, List.set_cons_succ]
        refine upto_takeN (i := 2) (v := ?_) rfl (by kernel_rfl) (by kernel_rfl) (by kernel_rfl) (by kernel_rfl) (fun _ _ _ h => h) (by rfl) hS ?_ ?_
        rotate_left
        · intro wS hSw
          try dsimp only at hSw
          first | (go_simp; done) | (go_simp; with_reducible rfl)
        try simp only [Act.put, List.getElem_toArray, List.getElem_cons_zero, List.getElem_cons_succ, List.setIfInBounds_toArray, List.set_cons_zero, List.set_cons_succ]
        refine upto_step (i := 3) (by kernel_rfl) rfl ?_
        intro K hK
        go_simp
        refine (HLast.out _ hS.1).mono ?_
        rintro e w3 ⟨rfl, hb3⟩
        have hS3 : (fun W => Below wr.heap.size wr W ∧ W.cell? ⟨w.heap.size, 0, none⟩ = some (.int .i64 d.con) ∧ W.cell? ⟨w.heap.size, 1, none⟩ = some (.int .i64 d.sh) ∧ W.cell? ⟨w.heap.size, 2, none⟩ = some (.int .i64 d.pr) ∧ W.cell? ⟨w.heap.size, 3, none⟩ = some (.int .i64 d.lb) ∧ W.cell? ⟨w.heap.size, 4, none⟩ = some (.int .i64 d.lv) ∧ W.cell? ⟨w.heap.size, 5, none⟩ = some (.slice ax k cx)) w3 := ⟨bstep hS.1 hb3, cell_keep hb3 hS.2.1, cell_keep hb3 hS.2.2.1, cell_keep hb3 hS.2.2.2.1, cell_keep hb3 hS.2.2.2.2.1, cell_keep hb3 hS.2.2.2.2.2.1, cell_keep hb3 hS.2.2.2.2.2.2⟩
        refine hK _ _ (fun _ => hS3) ?_
        clear hK K hS hb3
        try simp only [Act.put, List.getElem_toArray, List.getElem_cons_zero, List.getElem_cons_succ, List.setIfInBounds_toArray, List.set_cons_zero, List.set_cons_succ]
        refine upto_takeN (i := 4) (v := (.bool true)) rfl (by kernel_rfl) (by kernel_rfl) (by kernel_rfl) (by kernel_rfl) (fun _ _ _ h => h) (by rfl) hS3 ?_ ?_
        · intro wS hSw
          try dsimp only at hSw
          go_simp
        try simp only [Act.put, List.getElem_toArray, List.getElem_cons_zero, List.getElem_cons_succ, List.setIfInBounds_toArray, List.set_cons_zero, List.set_cons_succ]
        refine upto_takeN (i := 5) (v := (.bool true)) rfl (by kernel_rfl) (by kernel_rfl) (by kernel_rfl) (by kernel_rfl) (fun _ _ _ h => h) (by rfl) hS3 ?_ ?_
        · intro wS hSw
          try dsimp only at hSw
          go_simp
        try simp only [Act.put, List.getElem_toArray, List.getElem_cons_zero, List.getElem_cons_succ, List.setIfInBounds_toArray, List.set_cons_zero, List.set_cons_succ]
        refine upto_skipN (i := 6) rfl (by kernel_rfl) (by kernel_rfl) (by kernel_rfl) (by kernel_rfl) (fun _ _ _ h => h) (by rfl) hS3 (fun q6 => ?_)
        try simp only [Act.put, List.getElem_toArray, List.getElem_cons_zero, List.getElem_cons_succ, List.setIfInBounds_toArray, List.set_cons_zero, List.set_cons_succ]
        refine upto_skipN (i := 7) rfl (by kernel_rfl) (by kernel_rfl) (by kernel_rfl) (by kernel_rfl) (fun _ _ _ h => h) (by rfl) hS3 (fun q7 => ?_)
        try simp only [Act.put, List.getElem_toArray, List.getElem_cons_zero, List.getElem_cons_succ, List.setIfInBounds_toArray, List.set_cons_zero, List.set_cons_succ]
        refine upto_skipN (i := 8) rfl (by kernel_rfl) (by kernel_rfl) (by kernel_rfl) (by kernel_rfl) (fun _ _ _ h => h) (by rfl) hS3 (fun q8 => ?_)
        try simp only [Act.put, List.getElem_toArray, List.getElem_cons_zero, List.getElem_cons_succ, List.setIfInBounds_toArray, List.set_cons_zero, List.set_cons_succ]
        refine upto_skipN (i := 9) rfl (by kernel_rfl) (by kernel_rfl) (by kernel_rfl) (by kernel_rfl) (fun _ _ _ h => h) (by rfl) hS3 (fun q9 => ?_)
        try simp only [Act.put, List.getElem_toArray, List.getElem_cons_zero, List.getElem_cons_succ, List.setIfInBounds_toArray, List.set_cons_zero, List.set_cons_succ]
        refine upto_skipN (i := 10) rfl (by kernel_rfl) (by kernel_rfl) (by kernel_rfl) (by kernel_rfl) (fun _ _ _ h => h) (by rfl) hS3 (fun q10 => ?_)
        try simp only [Act.put, List.getElem_toArray, List.getElem_cons_zero, List.getElem_cons_succ, List.setIfInBounds_toArray, List.set_cons_zero, List.set_cons_succ]
        refine upto_skipN (i := 11) rfl (by kernel_rfl) (by kernel_rfl) (by kernel_rfl) (by kernel_rfl) (fun _ _ _ h => h) (by rfl) hS3 (fun q11 => ?_)
        try simp only [Act.put, List.getElem_toArray, List.getElem_cons_zero, List.getElem_cons_succ, List.setIfInBounds_toArray, List.set_cons_zero, List.set_cons_succ]
        refine upto_takeN (i := 12) (v := (.bool true)) rfl (by kernel_rfl) (by kernel_rfl) (by kernel_rfl) (by kernel_rfl) (fun _ _ _ h => h) (by rfl) hS3 ?_ ?_
        · intro wS hSw
          try dsimp only at hSw
          go_simp
        try simp only [Act.put, List.getElem_toArray, List.getElem_cons_zero, List.getElem_cons_succ, List.setIfInBounds_toArray, List.set_cons_zero, List.set_cons_succ]
        refine upto_done (by kernel_rfl) ?_
        refine NoPanic.normal ?_
        have hB3 := bstep hbl hS3.1
        clear hS3
        go_wp2
        go_ret
        refine ⟨?_, hB3⟩
        rw [HE.out, HQ.out, if_neg (by simp at he; rintro ⟨⟨e1, e2⟩, _⟩; exact he e1 e2)]
        rfl
      · clear h1 h2 h3
        have heq : ∀ w, (binOp .neq 25 (.agg #[.int .i64 d.lb, .int .i64 d.lv]) (.agg #[.int .i64 q.bal, .int .i64 q.val])).run Try.prog w = .ok (.bool false) w := fun w => by rw [neqVot, he]; rfl
        go_wp2
        refine wp_region_noPanic ?_
        refine region_upto (fun W => Below wr.heap.size wr W ∧ W.cell? ⟨w.heap.size, 0, none⟩ = some (.int .i64 d.con) ∧ W.cell? ⟨w.heap.size, 1, none⟩ = some (.int .i64 d.sh) ∧ W.cell? ⟨w.heap.size, 2, none⟩ = some (.int .i64 d.pr) ∧ W.cell? ⟨w.heap.size, 3, none⟩ = some (.int .i64 d.lb) ∧ W.cell? ⟨w.heap.size, 4, none⟩ = some (.int .i64 d.lv) ∧ W.cell? ⟨w.heap.size, 5, none⟩ = some (.slice ax k cx)) 13 (by kernel_rfl) (keepN6 (by (repeat (first | exact Below.refl _ _ | assumption | refine Below.drew ?_ | refine balloc ?_ _ | refine bset ?_ (by simp; omega) _ | refine bset ?_ (by simp) _ | refine bstep ?_ (by assumption)))) c0 c1 c2 c3 c4 c5) (fun hS => ?_)
        refine upto_takeN (i := 0) (v := ?_) rfl (by kernel_rfl) (by kernel_rfl) (by kernel_rfl) (by kernel_rfl) (fun _ _ _ h => h) (by rfl) hS ?_ ?_
        rotate_left
        · intro wS hSw
          try dsimp only at hSw
          first | (go_simp; done) | (go_simp; with_reducible rfl)
        try simp only [Act.put, List.getElem_toArray, List.getElem_cons_zero, List.getElem_cons_succ, List.setIfInBounds_toArray, List.set_cons_zero, List.set_cons_succ]
        refine upto_takeN (i := 1) (v := ?_) rfl (by kernel_rfl) (by kernel_rfl) (by kernel_rfl) (by kernel_rfl) (fun _ _ _ h => h) (by rfl) hS ?_ ?_
        rotate_left
        · intro wS hSw
          try dsimp only at hSw
          first | (go_simp; done) | (go_simp; with_reducible rfl)
        try simp only [Act.put, List.getElem_toArray, List.getElem_cons_zero, List.getElem_cons_succ, List.setIfInBounds_toArray, List.set_cons_zero, List.set_cons_succ]
        refine upto_takeN (i := 2) (v := ?_) rfl (by kernel_rfl) (by kernel_rfl) (by kernel_rfl) (by kernel_rfl) (fun _ _ _ h => h) (by rfl) hS ?_ ?_
        rotate_left
        · intro wS hSw
          try dsimp only at hSw
          first | (go_simp; done) | (go_simp; with_reducible rfl)
        try simp only [Act.put, List.getElem_toArray, List.getElem_cons_zero, List.getElem_cons_succ, List.setIfInBounds_toArray, List.set_cons_zero, List.set_cons_succ]
        refine upto_step (i := 3) (by kernel_rfl) rfl ?_
        intro K hK
        go_simp
        refine (HLast.out _ hS.1).mono ?_
        rintro e w3 ⟨rfl, hb3⟩
        have hS3 : (fun W => Below wr.heap.size wr W ∧ W.cell? ⟨w.heap.size, 0, none⟩ = some (.int .i64 d.con) ∧ W.cell? ⟨w.heap.size, 1, none⟩ = some (.int .i64 d.sh) ∧ W.cell? ⟨w.heap.size, 2, none⟩ = some (.int .i64 d.pr) ∧ W.cell? ⟨w.heap.size, 3, none⟩ = some (.int .i64 d.lb) ∧ W.cell? ⟨w.heap.size, 4, none⟩ = some (.int .i64 d.lv) ∧ W.cell? ⟨w.heap.size, 5, none⟩ = some (.slice ax k cx)) w3 := ⟨bstep hS.1 hb3, cell_keep hb3 hS.2.1, cell_keep hb3 hS.2.2.1, cell_keep hb3 hS.2.2.2.1, cell_keep hb3 hS.2.2.2.2.1, cell_keep hb3 hS.2.2.2.2.2.1, cell_keep hb3 hS.2.2.2.2.2.2⟩
        refine hK _ _ (fun _ => hS3) ?_
        clear hK K hS hb3
        try simp only [Act.put, List.getElem_toArray, List.getElem_cons_zero, List.getElem_cons_succ, List.setIfInBounds_toArray, List.set_cons_zero, List.set_cons_succ]
        refine upto_takeN (i := 4) (v := (.bool false)) rfl (by kernel_rfl) (by kernel_rfl) (by kernel_rfl) (by kernel_rfl) (fun _ _ _ h => h) (by rfl) hS3 ?_ ?_
        · intro wS hSw
          try dsimp only at hSw
          go_simp
        try simp only [Act.put, List.getElem_toArray, List.getElem_cons_zero, List.getElem_cons_succ, List.setIfInBounds_toArray, List.set_cons_zero, List.set_cons_succ]
        refine upto_takeN (i := 5) (v := (.bool false)) rfl (by kernel_rfl) (by kernel_rfl) (by kernel_rfl) (by kernel_rfl) (fun _ _ _ h => h) (by rfl) hS3 ?_ ?_
        · intro wS hSw
          try dsimp only at hSw
          go_simp
        try simp only [Act.put, List.getElem_toArray, List.getElem_cons_zero, List.getElem_cons_succ, List.setIfInBounds_toArray, List.set_cons_zero, List.set_cons_succ]
        refine upto_takeN (i := 6) (v := ?_) rfl (by kernel_rfl) (by kernel_rfl) (by kernel_rfl) (by kernel_rfl) (fun _ _ _ h => h) (by rfl) hS3 ?_ ?_
        rotate_left
        · intro wS hSw
          try dsimp only at hSw
          first | (go_simp; done) | (go_simp; with_reducible rfl)
        try simp only [Act.put, List.getElem_toArray, List.getElem_cons_zero, List.getElem_cons_succ, List.setIfInBounds_toArray, List.set_cons_zero, List.set_cons_succ]
        refine upto_takeN (i := 7) (v := ?_) rfl (by kernel_rfl) (by kernel_rfl) (by kernel_rfl) (by kernel_rfl) (fun _ _ _ h => h) (by rfl) hS3 ?_ ?_
        rotate_left
        · intro wS hSw
          try dsimp only at hSw
          first | (go_simp; done) | (go_simp; with_reducible rfl)
        try simp only [Act.put, List.getElem_toArray, List.getElem_cons_zero, List.getElem_cons_succ, List.setIfInBounds_toArray, List.set_cons_zero, List.set_cons_succ]
        refine upto_takeN (i := 8) (v := ?_) rfl (by kernel_rfl) (by kernel_rfl) (by kernel_rfl) (by kernel_rfl) (fun _ _ _ h => h) (by rfl) hS3 ?_ ?_
        rotate_left
        · intro wS hSw
          try dsimp only at hSw
          first | (go_simp; done) | (go_simp; with_reducible rfl)
        try simp only [Act.put, List.getElem_toArray, List.getElem_cons_zero, List.getElem_cons_succ, List.setIfInBounds_toArray, List.set_cons_zero, List.set_cons_succ]
        refine upto_takeN (i := 9) (v := ?_) rfl (by kernel_rfl) (by kernel_rfl) (by kernel_rfl) (by kernel_rfl) (fun _ _ _ h => h) (by rfl) hS3 ?_ ?_
        rotate_left
        · intro wS hSw
          try dsimp only at hSw
          first | (go_simp; done) | (go_simp; with_reducible rfl)
        try simp only [Act.put, List.getElem_toArray, List.getElem_cons_zero, List.getElem_cons_succ, List.setIfInBounds_toArray, List.set_cons_zero, List.set_cons_succ]
        refine upto_takeN (i := 10) (v := ?_) rfl (by kernel_rfl) (by kernel_rfl) (by kernel_rfl) (by kernel_rfl) (fun _ _ _ h => h) (by rfl) hS3 ?_ ?_
        rotate_left
        · intro wS hSw
          try dsimp only at hSw
          first | (go_simp; done) | (go_simp; with_reducible rfl)
        try simp only [Act.put, List.getElem_toArray, List.getElem_cons_zero, List.getElem_cons_succ, List.setIfInBounds_toArray, List.set_cons_zero, List.set_cons_succ]
        refine upto_takeN (i := 11) (v := ?_) rfl (by kernel_rfl) (by kernel_rfl) (by kernel_rfl) (by kernel_rfl) (fun _ _ _ h => h) (by rfl) hS3 ?_ ?_
        rotate_left
        · intro wS hSw
          try dsimp only at hSw
          first | (go_simp; done) | (go_simp; with_reducible rfl)
        try simp only [Act.put, List.getElem_toArray, List.getElem_cons_zero, List.getElem_cons_succ, List.setIfInBounds_toArray, List.set_cons_zero, List.set_cons_succ]
        refine upto_takeN (i := 12) (v := ?_) rfl (by kernel_rfl) (by kernel_rfl) (by kernel_rfl) (by kernel_rfl) (fun _ _ _ h => h) (by rfl) hS3 ?_ ?_
        rotate_left
        · intro wS hSw
          try dsimp only at hSw
          first | (go_simp; done) | (go_simp; with_reducible rfl)
        try simp only [Act.put, List.getElem_toArray, List.getElem_cons_zero, List.getElem_cons_succ, List.setIfInBounds_toArray, List.set_cons_zero, List.set_cons_succ]
        refine upto_done (by kernel_rfl) ?_
        refine NoPanic.normal ?_
        have hB3 := bstep hbl hS3.1
        clear hS3
        go_wp2
        · rename_i hle
          go_ret
          refine ⟨?_, hB3⟩
          rw [HE.out, HQ.out, if_neg (by rintro ⟨_, h⟩; omega)]
          rfl
        · rename_i hle
          go_ret
          refine ⟨?_, hB3⟩
          simp at he
          rw [HE.out, HQ.out, if_pos ⟨he, by omega⟩]
          rfl
end Go.Proofs.Ytjhmdnlkpkagiaa

/-
  SlotFault, the program's.
-/
set_option linter.unusedSimpArgs false
namespace Go.Proofs.Ytjhmdnlkpkagiaa
open Go.RowKit
set_option linter.unusedSectionVars false
variable [DecidableEq Vot] [Inhabited Vot] [DecidableEq Slt] [Inhabited Slt] [DecidableEq Bal] [Inhabited Bal] [DecidableEq Ledg] [Inhabited Ledg] [DecidableEq Leg] [Inhabited Leg]
attribute [local go_sem ↓] Go.wp_at_zero Go.wp_at_succ

theorem other_or (v p : Vot) : other v p = (decide (v.bal < p.bal) || otherB v p) := rfl
set_option maxHeartbeats 4000000 in
theorem implSlotF_any (x : Value) (d : Slt) (w : World) (hx : sltR.V w x d) :
    Calls Try.prog 8 #[x] w fun e w' => e = .returned (.int .i64 (sltFault d)) ∧ Below w.heap.size w w' := by
  obtain ⟨u1, rfl, hx⟩ := hx
  obtain ⟨ax, cx, rfl, hcx, hmx, hx⟩ := hx
  unfold maxLen at hmx
  cases h1 : inB d.con 1 1000000000
  · rw [sltF_range (by simp [sltRange, h1])]
    go_enter Try.func8, Try.ntmps8
    go_wp2_with (first | (go_at_call 19; refine (isId_any _ _).mono ?_; rintro e w' ⟨rfl, rfl⟩) | (go_at_call 20; refine (isShard_any _ _).mono ?_; rintro e w' ⟨rfl, rfl⟩) | (go_at_call 21; refine (within_any _ _ _ _).mono ?_; rintro e w' ⟨rfl, rfl⟩))
    go_ret
    exact ⟨rfl, by (repeat (first | exact Below.refl _ _ | assumption | refine Below.drew ?_ | refine balloc ?_ _ | refine bset ?_ (by simp; omega) _ | refine bset ?_ (by simp) _ | refine bstep ?_ (by assumption)))⟩
  cases h2 : inB d.sh 0 2
  · rw [sltF_range (by simp [sltRange, h2])]
    go_enter Try.func8, Try.ntmps8
    go_wp2_with (first | (go_at_call 19; refine (isId_any _ _).mono ?_; rintro e w' ⟨rfl, rfl⟩) | (go_at_call 20; refine (isShard_any _ _).mono ?_; rintro e w' ⟨rfl, rfl⟩) | (go_at_call 21; refine (within_any _ _ _ _).mono ?_; rintro e w' ⟨rfl, rfl⟩))
    go_ret
    exact ⟨rfl, by (repeat (first | exact Below.refl _ _ | assumption | refine Below.drew ?_ | refine balloc ?_ _ | refine bset ?_ (by simp; omega) _ | refine bset ?_ (by simp) _ | refine bstep ?_ (by assumption)))⟩
  cases h3 : inB d.pr (-1) 1000
  · rw [sltF_range (by simp [sltRange, h3])]
    go_enter Try.func8, Try.ntmps8
    go_wp2_with (first | (go_at_call 19; refine (isId_any _ _).mono ?_; rintro e w' ⟨rfl, rfl⟩) | (go_at_call 20; refine (isShard_any _ _).mono ?_; rintro e w' ⟨rfl, rfl⟩) | (go_at_call 21; refine (within_any _ _ _ _).mono ?_; rintro e w' ⟨rfl, rfl⟩))
    go_ret
    exact ⟨rfl, by (repeat (first | exact Below.refl _ _ | assumption | refine Below.drew ?_ | refine balloc ?_ _ | refine bset ?_ (by simp; omega) _ | refine bset ?_ (by simp) _ | refine bstep ?_ (by assumption)))⟩
  have hR : Hid (sltRange d = true) := by show _ = _; simp [sltRange, h1, h2, h3]
  by_cases h6 : 60 < d.cast.length
  · rw [sltF_many hR.out h6]
    go_enter Try.func8, Try.ntmps8
    go_wp2_with (first | (go_at_call 19; refine (isId_any _ _).mono ?_; rintro e w' ⟨rfl, rfl⟩) | (go_at_call 20; refine (isShard_any _ _).mono ?_; rintro e w' ⟨rfl, rfl⟩) | (go_at_call 21; refine (within_any _ _ _ _).mono ?_; rintro e w' ⟨rfl, rfl⟩))
    go_ret
    exact ⟨rfl, by (repeat (first | exact Below.refl _ _ | assumption | refine Below.drew ?_ | refine balloc ?_ _ | refine bset ?_ (by simp; omega) _ | refine bset ?_ (by simp) _ | refine bstep ?_ (by assumption)))⟩
  obtain ⟨xs, hxs⟩ : ∃ xs, xs = d.cast := ⟨_, rfl⟩
  have HXS : Hid (d.cast = xs) := hxs.symm
  rw [← hxs] at h6 hcx hx ⊢
  clear hxs
  obtain ⟨n, hn'⟩ : ∃ n, n = xs.length := ⟨_, rfl⟩
  have HN : Hid (xs.length = n) := hn'.symm
  rw [← hn'] at h6 hcx hx ⊢
  clear hn'
  go_enter Try.func8, Try.ntmps8
  go_wp2_with (first | (go_at_call 19; refine (isId_any _ _).mono ?_; rintro e w' ⟨rfl, rfl⟩) | (go_at_call 20; refine (isShard_any _ _).mono ?_; rintro e w' ⟨rfl, rfl⟩) | (go_at_call 21; refine (within_any _ _ _ _).mono ?_; rintro e w' ⟨rfl, rfl⟩) | fail)
  refine (noVote_any _).mono ?_
  rintro e w1 ⟨rfl, hb1⟩
  have hB1 : Below w.heap.size w w1 := bstep (by (repeat (first | exact Below.refl _ _ | assumption | refine Below.drew ?_ | refine balloc ?_ _ | refine bset ?_ (by simp; omega) _ | refine bset ?_ (by simp) _ | refine bstep ?_ (by assumption)))) hb1
  have k2 : w1.cell? ⟨w.heap.size, 2, none⟩ = some (.int .i64 d.pr) := cell_keep hb1 (by simp [go_sem])
  have k3 : w1.cell? ⟨w.heap.size, 3, none⟩ = some (.int .i64 d.lb) := cell_keep hb1 (by simp [go_sem])
  have k4 : w1.cell? ⟨w.heap.size, 4, none⟩ = some (.int .i64 d.lv) := cell_keep hb1 (by simp [go_sem])
  have k5 : w1.cell? ⟨w.heap.size, 5, none⟩ = some (.slice ax n cx) := cell_keep hb1 (by simp [go_sem])
  clear hb1
  have z1 : w.heap.size < w1.heap.size := World.block_lt_of_cell? w1 _ k2
  go_wp2
  go_loopw [30] (fun i w' => ∃ k : Nat, k ≤ n ∧ i = .int .i64 k ∧ scanI (votAt xs) k = 0 ∧ (w'.cell? ⟨w.heap.size, 2, none⟩ = some (.int .i64 d.pr) ∧ w'.cell? ⟨w.heap.size, 3, none⟩ = some (.int .i64 d.lb) ∧ w'.cell? ⟨w.heap.size, 4, none⟩ = some (.int .i64 d.lv)) ∧ w'.cell? ⟨w1.heap.size, 0, none⟩ = some (.int .i64 (lastV xs k).bal) ∧ w'.cell? ⟨w1.heap.size, 1, none⟩ = some (.int .i64 (lastV xs k).val) ∧ (∀ o, w'.frozen? ⟨w1.heap.size, o, none⟩ = false) ∧ Below w.heap.size w w') (fun i _ => n - (intOf i).toNat)
  case atStart => exact ⟨0, Nat.zero_le _, rfl, rfl, ⟨cell_keep (balloc (Below.refl _ _) _) k2, cell_keep (balloc (Below.refl _ _) _) k3, cell_keep (balloc (Below.refl _ _) _) k4⟩, by simp [go_sem, lastV_zero, noV], by simp [go_sem, lastV_zero, noV], by simp [go_sem], by (repeat (first | exact Below.refl _ _ | assumption | refine Below.drew ?_ | refine balloc ?_ _ | refine bset ?_ (by simp; omega) _ | refine bset ?_ (by simp) _ | refine bstep ?_ (by assumption)))⟩
  case round =>
    clear k2 k3 k4 k5 hB1
    obtain ⟨k, hk, rfl, hs, ⟨c2, c3, c4⟩, e0, e1, ef, hbl⟩ := hrel
    have HS : Hid (scanI (votAt xs) k = 0) := hs
    clear hs
    have z0 : w.heap.size < wr.heap.size := World.block_lt_of_cell? wr _ c2
    have z2 : w1.heap.size < wr.heap.size := World.block_lt_of_cell? wr _ e0
    obtain ⟨q, hq⟩ : ∃ q, q = lastV xs k := ⟨_, rfl⟩
    have HQ : Hid (lastV xs k = q) := hq.symm
    rw [← hq] at e0 e1
    clear hq
    by_cases hlt : k < n
    · obtain ⟨bx, ox, rfl, g1⟩ := hx k hlt
      obtain ⟨l, hl⟩ : ∃ l, l = xs.getD k default := ⟨_, rfl⟩
      rw [← hl] at g1
      have HL : Hid (l = xs.getD k default) := hl
      clear hl hx
      obtain ⟨a1, a2⟩ := votCells_below hbl g1
      clear g1
      cases v1 : votB l
      · go_wp2_with (go_at_call 23; refine (isVote_any l _).mono ?_; rintro e w' ⟨rfl, hb⟩)
        go_ret
        refine ⟨?_, by (repeat (first | exact Below.refl _ _ | assumption | refine Below.drew ?_ | refine balloc ?_ _ | refine bset ?_ (by simp; omega) _ | refine bset ?_ (by simp) _ | refine bstep ?_ (by assumption)))⟩
        rw [sltF_hit (k := k) (c := 3) hR.out (by rw [HXS.out, HN.out]; omega) (by rw [HXS.out, HN.out]; exact hlt) (by rw [HXS.out]; exact HS.out) (by rw [HXS.out]; exact votAt_bad (by rw [← HL.out]; exact v1)) (by omega)]
        rfl
      have hok : Hid (votB (xs.getD k default) = true) := by show _ = _; rw [← HL.out]; exact v1
      go_wp2_with fail
      refine (isVote_any l _).mono ?_
      rintro e w2 ⟨rfl, hb2⟩
      have hB2 : Below w.heap.size w w2 := bstep (balloc hbl _) hb2
      have b0 : w2.cell? ⟨wr.heap.size, 0, none⟩ = some (.int .i64 l.bal) := cell_keep hb2 (by simp [go_sem])
      have b1 : w2.cell? ⟨wr.heap.size, 1, none⟩ = some (.int .i64 l.val) := cell_keep hb2 (by simp [go_sem])
      replace c2 := cell_keep hb2 (cell_keep (by (repeat (first | exact Below.refl _ _ | assumption | refine Below.drew ?_ | refine balloc ?_ _ | refine bset ?_ (by simp; omega) _ | refine bset ?_ (by simp) _ | refine bstep ?_ (by assumption)))) c2)
      replace c3 := cell_keep hb2 (cell_keep (by (repeat (first | exact Below.refl _ _ | assumption | refine Below.drew ?_ | refine balloc ?_ _ | refine bset ?_ (by simp; omega) _ | refine bset ?_ (by simp) _ | refine bstep ?_ (by assumption)))) c3)
      replace c4 := cell_keep hb2 (cell_keep (by (repeat (first | exact Below.refl _ _ | assumption | refine Below.drew ?_ | refine balloc ?_ _ | refine bset ?_ (by simp; omega) _ | refine bset ?_ (by simp) _ | refine bstep ?_ (by assumption)))) c4)
      replace e0 := cell_keep hb2 (cell_keep (by (repeat (first | exact Below.refl _ _ | assumption | refine Below.drew ?_ | refine balloc ?_ _ | refine bset ?_ (by simp; omega) _ | refine bset ?_ (by simp) _ | refine bstep ?_ (by assumption)))) e0)
      replace e1 := cell_keep hb2 (cell_keep (by (repeat (first | exact Below.refl _ _ | assumption | refine Below.drew ?_ | refine balloc ?_ _ | refine bset ?_ (by simp; omega) _ | refine bset ?_ (by simp) _ | refine bstep ?_ (by assumption)))) e1)
      replace ef : ∀ o, w2.frozen? ⟨w1.heap.size, o, none⟩ = false := fun o => by rw [(bcell hb2).2 _ _ (by simp; omega)]; simp [go_sem, ef, z2]
      clear hb2 hbl a1 a2
      rw [v1]
      by_cases q1 : l.bal < q.bal
      · go_wp2
        go_ret
        refine ⟨?_, hB2⟩
        rw [sltF_hit (k := k) (c := 1) hR.out (by rw [HXS.out, HN.out]; omega) (by rw [HXS.out, HN.out]; exact hlt) (by rw [HXS.out]; exact HS.out) (by rw [HXS.out]; exact votAt_other hok.out (by rw [← HL.out, HQ.out, other_or]; simp [q1])) (by omega)]
        rfl
      · go_wp2_with fail
        refine (isOtherwise_any l q _).mono ?_
        rintro e w3 ⟨rfl, hb3⟩
        have hB3 : Below w.heap.size w w3 := bstep hB2 hb3
        have z3 : w1.heap.size < w2.heap.size := World.block_lt_of_cell? w2 _ e0
        replace b0 := cell_keep hb3 b0
        replace b1 := cell_keep hb3 b1
        replace c2 := cell_keep hb3 c2
        replace c3 := cell_keep hb3 c3
        replace c4 := cell_keep hb3 c4
        replace e0 := cell_keep hb3 e0
        replace e1 := cell_keep hb3 e1
        replace ef : ∀ o, w3.frozen? ⟨w1.heap.size, o, none⟩ = false := fun o => by rw [(bcell hb3).2 _ _ z3]; exact ef o
        clear hb3 hB2
        cases q2 : otherB l q
        · go_wp2
          refine ⟨⟨k + 1, by omega, by go_num, scanI_succ HS.out (votAt_ok hok.out (by rw [← HL.out, HQ.out, other_or, q2]; simp [q1])), ⟨by simp [go_sem, c2], by simp [go_sem, c3], by simp [go_sem, c4]⟩, ?_, ?_, by simp [go_sem, ef], by (repeat (first | refine bset ?_ (by simp; omega) _ | refine bset ?_ (by simp) _ | refine balloc ?_ _ | assumption))⟩, by simp [intOf]; omega⟩
          · rw [lastV_succ, ← HL.out]
            simp [go_sem, e0]
          · rw [lastV_succ, ← HL.out]
            simp [go_sem, e1]
        · go_wp2
          go_ret
          refine ⟨?_, hB3⟩
          rw [sltF_hit (k := k) (c := 1) hR.out (by rw [HXS.out, HN.out]; omega) (by rw [HXS.out, HN.out]; exact hlt) (by rw [HXS.out]; exact HS.out) (by rw [HXS.out]; exact votAt_other hok.out (by rw [← HL.out, HQ.out, other_or, q2]; simp)) (by omega)]
          rfl
    · have hkn : k = n := by omega
      subst hkn
      have HE : Hid (sltFault d = if (d.lb = q.bal ∧ d.lv = q.val) ∧ d.lb ≤ d.pr then 0 else 1) := by
        show _ = _
        rw [sltF_end hR.out (by rw [HXS.out, HN.out]; omega) (by rw [HXS.out, HN.out]; exact HS.out), HXS.out, HN.out, HQ.out]
      clear hx hlt
      cases he : (decide (d.lb = q.bal) && decide (d.lv = q.val))
      · have heq : ∀ w, (binOp .neq 25 (.agg #[.int .i64 d.lb, .int .i64 d.lv]) (.agg #[.int .i64 q.bal, .int .i64 q.val])).run Try.prog w = .ok (.bool true) w := fun w => by rw [neqVot, he]; rfl
        go_wp2
        go_ret
        refine ⟨?_, hbl⟩
        rw [HE.out, if_neg (by simp at he; rintro ⟨⟨e1, e2⟩, _⟩; exact he e1 e2)]
        rfl
      · have heq : ∀ w, (binOp .neq 25 (.agg #[.int .i64 d.lb, .int .i64 d.lv]) (.agg #[.int .i64 q.bal, .int .i64 q.val])).run Try.prog w = .ok (.bool false) w := fun w => by rw [neqVot, he]; rfl
        simp at he
        have HB : Hid (d.lb = q.bal ∧ d.lv = q.val) := he
        clear he
        go_wp2
        · rename_i hle
          go_ret
          refine ⟨?_, hbl⟩
          rw [HE.out, if_neg (by rintro ⟨_, h⟩; have := HB.out.1; omega)]
          rfl
        · rename_i hle
          go_ret
          refine ⟨?_, hbl⟩
          rw [HE.out, if_pos ⟨HB.out, by have := HB.out.1; omega⟩]
          rfl
end Go.Proofs.Ytjhmdnlkpkagiaa

/-
  AcceptSlot, the specification's.
-/
set_option linter.unusedSimpArgs false
set_option linter.unusedVariables false
namespace Go.Proofs.Ytjhmdnlkpkagiaa
open Go.RowKit
set_option linter.unusedSectionVars false
variable [DecidableEq Vot] [Inhabited Vot] [DecidableEq Slt] [Inhabited Slt] [DecidableEq SltR] [Inhabited SltR] [DecidableEq Bal] [Inhabited Bal] [DecidableEq Ledg] [Inhabited Ledg] [DecidableEq Leg] [Inhabited Leg]
attribute [local go_sem ↓] Go.wp_at_zero Go.wp_at_succ

theorem heap_new2 (w : World) (o o' : Obj) : ((w.alloc o).alloc o').heap[w.heap.size]? = some o := by
  show ((w.heap.push o).push o')[w.heap.size]? = some o
  simp [Array.getElem?_push]
theorem own_other {w : World} {base e size : Nat} {v : Value} {n : Nat} {xs : List Value} {k : Nat} {c : Array Value} {t : Nat} {f : Nat × Nat} (h : w.ownsRow base e size v n xs) (hb : w.heap[k]? = some (.cells c t f)) (hne : ¬ t = e) : ¬ v.ownBlock = some k := by
  intro he
  rcases h.2 with ⟨rfl, _⟩ | ⟨g, cap, cur, rfl, _, hg, _⟩
  · simp [Value.ownBlock] at he
  · simp only [Value.ownBlock, Option.some.injEq] at he
    subst he
    rw [hb] at hg
    simp at hg
    exact hne hg.2.1
theorem Rep.setN {α : Type} (R : Rep α) {w : World} {base : Nat} {F : Nat → Prop} {v : Value} {x : α} (h : R.O w base F v x) {p : Addr} (u : Value) (hp : ¬ F p.block) : R.O (w.setCell p u) base F v x :=
  R.mod h (Mod.of_set w p u) (fun b hb he => hp (he ▸ hb))
def AccEnd (x : Value) (c : Int) (s : Slt) (w : World) (e : Ending) (w' : World) : Prop :=
  ∃ u, e = .returned (.tuple #[u, .int .i64 c]) ∧ Below w.heap.size w w' ∧ (¬ c = 0 → u = x) ∧ (c = 0 → ∃ F, sltR.O w' w.heap.size F u s)
set_option maxHeartbeats 4000000 in
theorem l8Accept_u (x : Value) (d : Slt) (v : Vot) (w : World) (hx : sltR.V w x d) (hn : d.cast.length ≤ 60) :
    Calls Try.prog 26 #[x, .agg #[.int .i64 v.bal, .int .i64 v.val]] w fun e w' => AccEnd x (accC d v) (accS d v) w e w' := by
  have hX := hx
  obtain ⟨u1, rfl, hx⟩ := hx
  obtain ⟨ax, cx, rfl⟩ := vots_form hx
  clear hx
  by_cases h1 : v.bal < d.pr
  · rw [accC_busy h1]
    go_enter Try.func26, Try.ntmps26
    go_wp2
    refine bodyPost_ret (v := .tuple #[.agg #[.int .i64 d.con, .int .i64 d.sh, .int .i64 d.pr, .int .i64 d.lb, .int .i64 d.lv, .slice ax d.cast.length cx], .int .i64 8]) (by simp [results, Try.results26, go_sem]) rfl ?_
    exact ⟨_, rfl, by (repeat (first | exact Below.refl _ _ | assumption | refine Below.drew ?_ | refine balloc ?_ _ | refine bset ?_ (by simp; omega) _ | refine bset ?_ (by simp) _ | refine bstep ?_ (by assumption))), fun _ => rfl, fun h => absurd h (by omega)⟩
  by_cases h2 : v.bal = d.lb
  · have e2 : (v.bal == d.lb) = true := by simp [h2]
    by_cases h3 : v.val = d.lv
    · rw [accC_same h1 h2 h3, accS_same h2 h3]
      have heq : ∀ w, (binOp .neq 25 (.agg #[.int .i64 v.bal, .int .i64 v.val]) (.agg #[.int .i64 d.lb, .int .i64 d.lv])).run Try.prog w = .ok (.bool false) w := fun w => by rw [neqVot]; simp [h2, h3]
      have e3 : (v.val != d.lv) = false := by simp [h3]
      clear h2 h3
      go_enter Try.func26, Try.ntmps26
      go_wp2_with fail
      refine (l8Copy_u _ d _ (sltR.below hX (by (repeat (first | exact Below.refl _ _ | assumption | refine Below.drew ?_ | refine balloc ?_ _ | refine bset ?_ (by simp; omega) _ | refine bset ?_ (by simp) _ | refine bstep ?_ (by assumption))))) (by omega)).mono ?_
      rintro e w2 ⟨v2, F2, rfl, o2, hb2⟩
      obtain ⟨u2, F1, rfl, ov, hF⟩ := o2
      obtain ⟨a2, c2, rfl⟩ := vots_form (votsR.ofO ov)
      clear hF
      have hB2 : Below w.heap.size w w2 := bstep (by (repeat (first | exact Below.refl _ _ | assumption | refine Below.drew ?_ | refine balloc ?_ _ | refine bset ?_ (by simp; omega) _ | refine bset ?_ (by simp) _ | refine bstep ?_ (by assumption)))) hb2
      have y0 : w2.cell? ⟨w.heap.size, 0, none⟩ = some (.int .i64 d.con) := cell_keep hb2 (by simp [go_sem])
      have y1 : w2.cell? ⟨w.heap.size, 1, none⟩ = some (.int .i64 d.sh) := cell_keep hb2 (by simp [go_sem])
      have y2 : w2.cell? ⟨w.heap.size, 2, none⟩ = some (.int .i64 d.pr) := cell_keep hb2 (by simp [go_sem])
      have y3 : w2.cell? ⟨w.heap.size, 3, none⟩ = some (.int .i64 d.lb) := cell_keep hb2 (by simp [go_sem])
      have y4 : w2.cell? ⟨w.heap.size, 4, none⟩ = some (.int .i64 d.lv) := cell_keep hb2 (by simp [go_sem])
      have y5 : w2.cell? ⟨w.heap.size, 5, none⟩ = some (.slice ax d.cast.length cx) := cell_keep hb2 (by simp [go_sem])
      have yf : ∀ o, w2.frozen? ⟨w.heap.size, o, none⟩ = false := fun o => by rw [(bcell hb2).2 _ _ (by simp; try omega)]; simp [go_sem]
      have r0 : w2.cell? ⟨w.heap.size + 1, 0, none⟩ = some (.int .i64 v.bal) := cell_keep hb2 (by simp [go_sem])
      have r1 : w2.cell? ⟨w.heap.size + 1, 1, none⟩ = some (.int .i64 v.val) := cell_keep hb2 (by simp [go_sem])
      have rf : ∀ o, w2.frozen? ⟨w.heap.size + 1, o, none⟩ = false := fun o => by rw [(bcell hb2).2 _ _ (by simp; try omega)]; simp [go_sem]
      have q0 : w2.cell? ⟨w.heap.size + 2, 0, none⟩ = some (.int .i64 0) := cell_keep hb2 (by simp [go_sem])
      have q1 : w2.cell? ⟨w.heap.size + 2, 1, none⟩ = some (.int .i64 0) := cell_keep hb2 (by simp [go_sem])
      have q2 : w2.cell? ⟨w.heap.size + 2, 2, none⟩ = some (.int .i64 0) := cell_keep hb2 (by simp [go_sem])
      have q3 : w2.cell? ⟨w.heap.size + 2, 3, none⟩ = some (.int .i64 0) := cell_keep hb2 (by simp [go_sem])
      have q4 : w2.cell? ⟨w.heap.size + 2, 4, none⟩ = some (.int .i64 0) := cell_keep hb2 (by simp [go_sem])
      have q5 : w2.cell? ⟨w.heap.size + 2, 5, none⟩ = some (.slice none 0 0) := cell_keep hb2 (by simp [go_sem])
      have qf : ∀ o, w2.frozen? ⟨w.heap.size + 2, o, none⟩ = false := fun o => by rw [(bcell hb2).2 _ _ (by simp; try omega)]; simp [go_sem]
      have hs2 := hb2.size
      simp at hs2
      simp only [World.size_alloc] at ov
      clear hb2
      have zz0 : w.heap.size < w2.heap.size := World.block_lt_of_cell? w2 _ y0
      have zz1 : w.heap.size + 1 < w2.heap.size := World.block_lt_of_cell? w2 _ r0
      have zz2 : w.heap.size + 2 < w2.heap.size := World.block_lt_of_cell? w2 _ q0
      go_wp2
      refine bodyPost_ret (v := .tuple #[.agg #[.int .i64 d.con, .int .i64 d.sh, .int .i64 v.bal, .int .i64 v.bal, .int .i64 v.val, .slice a2 d.cast.length c2], .int .i64 0]) (by simp [results, Try.results26, go_sem, q0, q1, q2, q3, q4, q5, qf, zz0, zz1, zz2]) rfl ?_
      refine ⟨_, rfl, ?_, fun h => absurd rfl h, fun _ => ⟨fun b => F1 b, ?_⟩⟩
      · refine balloc ?_ _
        iterate 6 (refine bset ?_ (by simp; try omega) _)
        exact hB2
      · refine ⟨.slice a2 d.cast.length c2, F1, rfl, ?_, fun b => Iff.rfl⟩
        refine votsR.base (base := w.heap.size + 1 + 1 + 1) ?_ (by omega)
        refine Rep.alloc _ ?_ _
        iterate 6 (refine Rep.set _ ?_ _ (by simp; try omega))
        exact ov
    · rw [accC_taken h1 h2 h3]
      have e3 : (v.val != d.lv) = true := by simp [h3]
      clear h2 h3
      go_enter Try.func26, Try.ntmps26
      go_wp2
      refine bodyPost_ret (v := .tuple #[.agg #[.int .i64 d.con, .int .i64 d.sh, .int .i64 d.pr, .int .i64 d.lb, .int .i64 d.lv, .slice ax d.cast.length cx], .int .i64 7]) (by simp [results, Try.results26, go_sem]) rfl ?_
      exact ⟨_, rfl, by (repeat (first | exact Below.refl _ _ | assumption | refine Below.drew ?_ | refine balloc ?_ _ | refine bset ?_ (by simp; omega) _ | refine bset ?_ (by simp) _ | refine bstep ?_ (by assumption))), fun _ => rfl, fun h => absurd h (by omega)⟩
  have e2 : (v.bal == d.lb) = false := by simp [h2]
  have heq : ∀ w, (binOp .neq 25 (.agg #[.int .i64 v.bal, .int .i64 v.val]) (.agg #[.int .i64 d.lb, .int .i64 d.lv])).run Try.prog w = .ok (.bool true) w := fun w => by rw [neqVot]; simp [h2]
  by_cases h4 : 60 ≤ d.cast.length
  · rw [accC_many h1 h2 h4]
    clear h2
    go_enter Try.func26, Try.ntmps26
    go_wp2_with fail
    refine (l8Copy_u _ d _ (sltR.below hX (by (repeat (first | exact Below.refl _ _ | assumption | refine Below.drew ?_ | refine balloc ?_ _ | refine bset ?_ (by simp; omega) _ | refine bset ?_ (by simp) _ | refine bstep ?_ (by assumption))))) (by omega)).mono ?_
    rintro e w2 ⟨v2, F2, rfl, o2, hb2⟩
    obtain ⟨u2, F1, rfl, ov, hF⟩ := o2
    obtain ⟨a2, c2, rfl⟩ := vots_form (votsR.ofO ov)
    clear hF
    have hB2 : Below w.heap.size w w2 := bstep (by (repeat (first | exact Below.refl _ _ | assumption | refine Below.drew ?_ | refine balloc ?_ _ | refine bset ?_ (by simp; omega) _ | refine bset ?_ (by simp) _ | refine bstep ?_ (by assumption)))) hb2
    have y0 : w2.cell? ⟨w.heap.size, 0, none⟩ = some (.int .i64 d.con) := cell_keep hb2 (by simp [go_sem])
    have y1 : w2.cell? ⟨w.heap.size, 1, none⟩ = some (.int .i64 d.sh) := cell_keep hb2 (by simp [go_sem])
    have y2 : w2.cell? ⟨w.heap.size, 2, none⟩ = some (.int .i64 d.pr) := cell_keep hb2 (by simp [go_sem])
    have y3 : w2.cell? ⟨w.heap.size, 3, none⟩ = some (.int .i64 d.lb) := cell_keep hb2 (by simp [go_sem])
    have y4 : w2.cell? ⟨w.heap.size, 4, none⟩ = some (.int .i64 d.lv) := cell_keep hb2 (by simp [go_sem])
    have y5 : w2.cell? ⟨w.heap.size, 5, none⟩ = some (.slice ax d.cast.length cx) := cell_keep hb2 (by simp [go_sem])
    have yf : ∀ o, w2.frozen? ⟨w.heap.size, o, none⟩ = false := fun o => by rw [(bcell hb2).2 _ _ (by simp; try omega)]; simp [go_sem]
    have r0 : w2.cell? ⟨w.heap.size + 1, 0, none⟩ = some (.int .i64 v.bal) := cell_keep hb2 (by simp [go_sem])
    have r1 : w2.cell? ⟨w.heap.size + 1, 1, none⟩ = some (.int .i64 v.val) := cell_keep hb2 (by simp [go_sem])
    have rf : ∀ o, w2.frozen? ⟨w.heap.size + 1, o, none⟩ = false := fun o => by rw [(bcell hb2).2 _ _ (by simp; try omega)]; simp [go_sem]
    have q0 : w2.cell? ⟨w.heap.size + 2, 0, none⟩ = some (.int .i64 0) := cell_keep hb2 (by simp [go_sem])
    have q1 : w2.cell? ⟨w.heap.size + 2, 1, none⟩ = some (.int .i64 0) := cell_keep hb2 (by simp [go_sem])
    have q2 : w2.cell? ⟨w.heap.size + 2, 2, none⟩ = some (.int .i64 0) := cell_keep hb2 (by simp [go_sem])
    have q3 : w2.cell? ⟨w.heap.size + 2, 3, none⟩ = some (.int .i64 0) := cell_keep hb2 (by simp [go_sem])
    have q4 : w2.cell? ⟨w.heap.size + 2, 4, none⟩ = some (.int .i64 0) := cell_keep hb2 (by simp [go_sem])
    have q5 : w2.cell? ⟨w.heap.size + 2, 5, none⟩ = some (.slice none 0 0) := cell_keep hb2 (by simp [go_sem])
    have qf : ∀ o, w2.frozen? ⟨w.heap.size + 2, o, none⟩ = false := fun o => by rw [(bcell hb2).2 _ _ (by simp; try omega)]; simp [go_sem]
    have hs2 := hb2.size
    simp at hs2
    simp only [World.size_alloc] at ov
    clear hb2
    have zz0 : w.heap.size < w2.heap.size := World.block_lt_of_cell? w2 _ y0
    have zz1 : w.heap.size + 1 < w2.heap.size := World.block_lt_of_cell? w2 _ r0
    have zz2 : w.heap.size + 2 < w2.heap.size := World.block_lt_of_cell? w2 _ q0
    clear ov
    go_wp2
    refine bodyPost_ret (v := .tuple #[.agg #[.int .i64 d.con, .int .i64 d.sh, .int .i64 d.pr, .int .i64 d.lb, .int .i64 d.lv, .slice ax d.cast.length cx], .int .i64 2]) (by simp [results, Try.results26, go_sem, q0, q1, q2, q3, q4, q5, qf, y0, y1, y2, y3, y4, y5, zz0, zz1, zz2]) rfl ?_
    refine ⟨_, rfl, ?_, fun _ => rfl, fun h => absurd h (by omega)⟩
    refine balloc ?_ _
    iterate 6 (refine bset ?_ (by simp; try omega) _)
    exact hB2
  · rw [accC_new h1 h2 h4, accS_new h2]
    clear h2
    go_enter Try.func26, Try.ntmps26
    go_wp2_with fail
    refine (l8Copy_u _ d _ (sltR.below hX (by (repeat (first | exact Below.refl _ _ | assumption | refine Below.drew ?_ | refine balloc ?_ _ | refine bset ?_ (by simp; omega) _ | refine bset ?_ (by simp) _ | refine bstep ?_ (by assumption))))) (by omega)).mono ?_
    rintro e w2 ⟨v2, F2, rfl, o2, hb2⟩
    obtain ⟨u2, F1, rfl, ov, hF⟩ := o2
    obtain ⟨a2, c2, rfl⟩ := vots_form (votsR.ofO ov)
    clear hF
    have hB2 : Below w.heap.size w w2 := bstep (by (repeat (first | exact Below.refl _ _ | assumption | refine Below.drew ?_ | refine balloc ?_ _ | refine bset ?_ (by simp; omega) _ | refine bset ?_ (by simp) _ | refine bstep ?_ (by assumption)))) hb2
    have y0 : w2.cell? ⟨w.heap.size, 0, none⟩ = some (.int .i64 d.con) := cell_keep hb2 (by simp [go_sem])
    have y1 : w2.cell? ⟨w.heap.size, 1, none⟩ = some (.int .i64 d.sh) := cell_keep hb2 (by simp [go_sem])
    have y2 : w2.cell? ⟨w.heap.size, 2, none⟩ = some (.int .i64 d.pr) := cell_keep hb2 (by simp [go_sem])
    have y3 : w2.cell? ⟨w.heap.size, 3, none⟩ = some (.int .i64 d.lb) := cell_keep hb2 (by simp [go_sem])
    have y4 : w2.cell? ⟨w.heap.size, 4, none⟩ = some (.int .i64 d.lv) := cell_keep hb2 (by simp [go_sem])
    have y5 : w2.cell? ⟨w.heap.size, 5, none⟩ = some (.slice ax d.cast.length cx) := cell_keep hb2 (by simp [go_sem])
    have yf : ∀ o, w2.frozen? ⟨w.heap.size, o, none⟩ = false := fun o => by rw [(bcell hb2).2 _ _ (by simp; try omega)]; simp [go_sem]
    have r0 : w2.cell? ⟨w.heap.size + 1, 0, none⟩ = some (.int .i64 v.bal) := cell_keep hb2 (by simp [go_sem])
    have r1 : w2.cell? ⟨w.heap.size + 1, 1, none⟩ = some (.int .i64 v.val) := cell_keep hb2 (by simp [go_sem])
    have rf : ∀ o, w2.frozen? ⟨w.heap.size + 1, o, none⟩ = false := fun o => by rw [(bcell hb2).2 _ _ (by simp; try omega)]; simp [go_sem]
    have q0 : w2.cell? ⟨w.heap.size + 2, 0, none⟩ = some (.int .i64 0) := cell_keep hb2 (by simp [go_sem])
    have q1 : w2.cell? ⟨w.heap.size + 2, 1, none⟩ = some (.int .i64 0) := cell_keep hb2 (by simp [go_sem])
    have q2 : w2.cell? ⟨w.heap.size + 2, 2, none⟩ = some (.int .i64 0) := cell_keep hb2 (by simp [go_sem])
    have q3 : w2.cell? ⟨w.heap.size + 2, 3, none⟩ = some (.int .i64 0) := cell_keep hb2 (by simp [go_sem])
    have q4 : w2.cell? ⟨w.heap.size + 2, 4, none⟩ = some (.int .i64 0) := cell_keep hb2 (by simp [go_sem])
    have q5 : w2.cell? ⟨w.heap.size + 2, 5, none⟩ = some (.slice none 0 0) := cell_keep hb2 (by simp [go_sem])
    have qf : ∀ o, w2.frozen? ⟨w.heap.size + 2, o, none⟩ = false := fun o => by rw [(bcell hb2).2 _ _ (by simp; try omega)]; simp [go_sem]
    have hs2 := hb2.size
    simp at hs2
    simp only [World.size_alloc] at ov
    clear hb2
    have zz0 : w.heap.size < w2.heap.size := World.block_lt_of_cell? w2 _ y0
    have zz1 : w.heap.size + 1 < w2.heap.size := World.block_lt_of_cell? w2 _ r0
    have zz2 : w.heap.size + 2 < w2.heap.size := World.block_lt_of_cell? w2 _ q0
    have hne : ∀ b, (Value.slice a2 d.cast.length c2).ownBlock = some b → b < w2.heap.size := fun b hb => (ov.1.lt b hb).2
    have hlo : ∀ b, (Value.slice a2 d.cast.length c2).ownBlock = some b → w.heap.size + 1 + 1 + 1 ≤ b := fun b hb => (ov.1.lt b hb).1
    have HO : Hid (votsR.O w2 (w.heap.size + 1 + 1 + 1) F1 (.slice a2 d.cast.length c2) d.cast) := ov
    clear ov
    go_wp2_with (at_builtin; refine wpList_appV _ rfl _ _ rfl (w.heap.size + 1 + 1 + 1) _ d.cast rfl _ [v] rfl (Rep.alloc votsR (Rep.alloc votsR HO.out _) _).1 ?c0 ?c1 ?c2 ?_)
    case c0 => exact appAny_vot (g := w2.heap.size + 1) (by simp [go_sem]) (by simp [go_sem])
    case c1 => simp; omega
    case c2 => simp; omega
    intro v' w3 ho hg hbel
    have hB3 : Below w.heap.size w w3 := Below.trans (balloc (balloc hB2 _) _) ((hbel _ (Below.refl _ _)).mono (by omega))
    have n2 : ∀ k, w2.heap.size ≤ k → some k ≠ (Value.slice a2 d.cast.length c2).ownBlock := fun k hk he => by have := hne k he.symm; omega
    have n1 : ∀ k, k < w.heap.size + 1 + 1 + 1 → some k ≠ (Value.slice a2 d.cast.length c2).ownBlock := fun k hk he => by have := hlo k he.symm; omega
    clear hbel
    have p0 : w3.cell? ⟨w2.heap.size, 0, none⟩ = some (.int .i64 d.con) := hg.cell (by simp [go_sem]) (n2 _ (by simp))
    have p1 : w3.cell? ⟨w2.heap.size, 1, none⟩ = some (.int .i64 d.sh) := hg.cell (by simp [go_sem]) (n2 _ (by simp))
    have p2 : w3.cell? ⟨w2.heap.size, 2, none⟩ = some (.int .i64 v.bal) := hg.cell (by simp [go_sem]) (n2 _ (by simp))
    have p3 : w3.cell? ⟨w2.heap.size, 3, none⟩ = some (.int .i64 d.lb) := hg.cell (by simp [go_sem]) (n2 _ (by simp))
    have p4 : w3.cell? ⟨w2.heap.size, 4, none⟩ = some (.int .i64 d.lv) := hg.cell (by simp [go_sem]) (n2 _ (by simp))
    have p5 : w3.cell? ⟨w2.heap.size, 5, none⟩ = some (.slice a2 d.cast.length c2) := hg.cell (by simp [go_sem]) (n2 _ (by simp))
    have pf : ∀ o, w3.frozen? ⟨w2.heap.size, o, none⟩ = false := fun o => (hg.frozen_far ⟨w2.heap.size, o, none⟩ (by simp; try omega) (n2 _ (by simp))).trans (by simp [go_sem])
    replace r0 : w3.cell? ⟨w.heap.size + 1, 0, none⟩ = some (.int .i64 v.bal) := hg.cell (cell_keep (balloc (balloc (Below.refl _ w2) _) _) r0) (n1 _ (by simp))
    replace r1 : w3.cell? ⟨w.heap.size + 1, 1, none⟩ = some (.int .i64 v.val) := hg.cell (cell_keep (balloc (balloc (Below.refl _ w2) _) _) r1) (n1 _ (by simp))
    replace q0 : w3.cell? ⟨w.heap.size + 2, 0, none⟩ = some (.int .i64 0) := hg.cell (cell_keep (balloc (balloc (Below.refl _ w2) _) _) q0) (n1 _ (by simp))
    replace q1 : w3.cell? ⟨w.heap.size + 2, 1, none⟩ = some (.int .i64 0) := hg.cell (cell_keep (balloc (balloc (Below.refl _ w2) _) _) q1) (n1 _ (by simp))
    replace q2 : w3.cell? ⟨w.heap.size + 2, 2, none⟩ = some (.int .i64 0) := hg.cell (cell_keep (balloc (balloc (Below.refl _ w2) _) _) q2) (n1 _ (by simp))
    replace q3 : w3.cell? ⟨w.heap.size + 2, 3, none⟩ = some (.int .i64 0) := hg.cell (cell_keep (balloc (balloc (Below.refl _ w2) _) _) q3) (n1 _ (by simp))
    replace q4 : w3.cell? ⟨w.heap.size + 2, 4, none⟩ = some (.int .i64 0) := hg.cell (cell_keep (balloc (balloc (Below.refl _ w2) _) _) q4) (n1 _ (by simp))
    replace q5 : w3.cell? ⟨w.heap.size + 2, 5, none⟩ = some (.slice none 0 0) := hg.cell (cell_keep (balloc (balloc (Below.refl _ w2) _) _) q5) (n1 _ (by simp))
    replace qf : ∀ o, w3.frozen? ⟨w.heap.size + 2, o, none⟩ = false := fun o => (hg.frozen_far ⟨w.heap.size + 2, o, none⟩ (by simp; omega) (n1 _ (by simp))).trans ((bcell (balloc (balloc (Below.refl _ w2) _) _)).2 _ _ zz2 ▸ qf o)
    have hs3 := hg.size
    simp at hs3
    obtain ⟨a3, c3, rfl⟩ := owns_form ho
    have hblk : w3.heap[w2.heap.size]? = some (.cells #[.int .i64 d.con, .int .i64 d.sh, .int .i64 v.bal, .int .i64 d.lb, .int .i64 d.lv, .slice a2 d.cast.length c2] 28) := (hg.block _ (by simp; try omega) (n2 _ (Nat.le_refl _))).trans (heap_new2 _ _ _)
    have hne3 : ¬ (Value.slice a3 (d.cast.length + 1) c3).ownBlock = some w2.heap.size := own_other ho hblk (by decide)
    have o3 : ∃ F, votsR.O w3 (w.heap.size + 1 + 1 + 1) F (.slice a3 (d.cast.length + 1) c3) (d.cast ++ [v]) ∧ ¬ F w2.heap.size := ⟨_, ⟨by rw [List.length_append]; exact ho, rfl⟩, hne3⟩
    obtain ⟨F3, o3, hF3⟩ := o3
    generalize d.cast.length + 1 = N3 at *
    clear hg n1 n2 hB2 hblk hne3 ho y0 y1 y2 y3 y4 y5 yf rf
    go_wp2
    refine bodyPost_ret (v := .tuple #[.agg #[.int .i64 d.con, .int .i64 d.sh, .int .i64 v.bal, .int .i64 v.bal, .int .i64 v.val, .slice a3 N3 c3], .int .i64 0]) (by simp [results, Try.results26, go_sem, q0, q1, q2, q3, q4, q5, qf, p0, p1, p2, p3, p4, p5, zz0, zz1, zz2]) rfl ?_
    refine ⟨_, rfl, ?_, fun h => absurd rfl h, fun _ => ⟨fun b => F3 b, ?_⟩⟩
    · iterate 9 (refine bset ?_ (by simp; try omega) _)
      exact hB3
    · refine ⟨.slice a3 N3 c3, F3, rfl, ?_, fun b => Iff.rfl⟩
      refine votsR.base (base := w.heap.size + 1 + 1 + 1) ?_ (by omega)
      iterate 6 (refine Rep.set _ ?_ _ (by simp; try omega))
      iterate 3 (refine Rep.setN _ ?_ _ hF3)
      exact o3
set_option maxHeartbeats 4000000 in
theorem specAcc_u (x : Value) (d : Slt) (b vl : Int) (w : World) (hx : sltR.V w x d) (hn : wtSlt d ≤ 1048576) :
    Calls Try.prog 10 #[x, .int .i64 b, .int .i64 vl] w fun e w' => ∃ v F, e = .returned v ∧ sltRR.O w' w.heap.size F v (accD d b vl) ∧ Below w.heap.size w w' := by
  have hX := hx
  obtain ⟨u1, rfl, hx⟩ := hx
  obtain ⟨ax, cx, rfl⟩ := vots_form hx
  clear hx
  have hl : d.cast.length ≤ 1048576 := hn
  clear hn
  go_enter Try.func10, Try.ntmps10
  go_wp2_with fail
  refine (specSlotF_any _ d _ (sltR.below hX (by (repeat (first | exact Below.refl _ _ | assumption | refine Below.drew ?_ | refine balloc ?_ _ | refine bset ?_ (by simp; omega) _ | refine bset ?_ (by simp) _ | refine bstep ?_ (by assumption)))))).mono ?_
  rintro e w1 ⟨rfl, hb1⟩
  have hB1 : Below w.heap.size w w1 := bstep (by (repeat (first | exact Below.refl _ _ | assumption | refine Below.drew ?_ | refine balloc ?_ _ | refine bset ?_ (by simp; omega) _ | refine bset ?_ (by simp) _ | refine bstep ?_ (by assumption)))) hb1
  have y0 : w1.cell? ⟨w.heap.size, 0, none⟩ = some (.int .i64 d.con) := cell_keep hb1 (by simp [go_sem])
  have y1 : w1.cell? ⟨w.heap.size, 1, none⟩ = some (.int .i64 d.sh) := cell_keep hb1 (by simp [go_sem])
  have y2 : w1.cell? ⟨w.heap.size, 2, none⟩ = some (.int .i64 d.pr) := cell_keep hb1 (by simp [go_sem])
  have y3 : w1.cell? ⟨w.heap.size, 3, none⟩ = some (.int .i64 d.lb) := cell_keep hb1 (by simp [go_sem])
  have y4 : w1.cell? ⟨w.heap.size, 4, none⟩ = some (.int .i64 d.lv) := cell_keep hb1 (by simp [go_sem])
  have y5 : w1.cell? ⟨w.heap.size, 5, none⟩ = some (.slice ax d.cast.length cx) := cell_keep hb1 (by simp [go_sem])
  have yf : ∀ o, w1.frozen? ⟨w.heap.size, o, none⟩ = false := fun o => by rw [(bcell hb1).2 _ _ (by simp; try omega)]; simp [go_sem]
  have q0 : w1.cell? ⟨w.heap.size + 1, 0, none⟩ = some (.int .i64 0) := cell_keep hb1 (by simp [go_sem])
  have q1 : w1.cell? ⟨w.heap.size + 1, 1, none⟩ = some (.int .i64 0) := cell_keep hb1 (by simp [go_sem])
  have q2 : w1.cell? ⟨w.heap.size + 1, 2, none⟩ = some (.int .i64 0) := cell_keep hb1 (by simp [go_sem])
  have q3 : w1.cell? ⟨w.heap.size + 1, 3, none⟩ = some (.int .i64 0) := cell_keep hb1 (by simp [go_sem])
  have q4 : w1.cell? ⟨w.heap.size + 1, 4, none⟩ = some (.int .i64 0) := cell_keep hb1 (by simp [go_sem])
  have q5 : w1.cell? ⟨w.heap.size + 1, 5, none⟩ = some (.int .i64 0) := cell_keep hb1 (by simp [go_sem])
  have q6 : w1.cell? ⟨w.heap.size + 1, 6, none⟩ = some (.int .i64 0) := cell_keep hb1 (by simp [go_sem])
  have q7 : w1.cell? ⟨w.heap.size + 1, 7, none⟩ = some (.int .i64 0) := cell_keep hb1 (by simp [go_sem])
  have q8 : w1.cell? ⟨w.heap.size + 1, 8, none⟩ = some (.slice none 0 0) := cell_keep hb1 (by simp [go_sem])
  have qf : ∀ o, w1.frozen? ⟨w.heap.size + 1, o, none⟩ = false := fun o => by rw [(bcell hb1).2 _ _ (by simp; try omega)]; simp [go_sem]
  have z1 := hb1.size
  simp at z1
  have hs1 := hB1.size
  clear hb1
  by_cases hf : sltFault d = 0
  · have HF : Hid (sltFault d = 0) := hf
    have hl6 : d.cast.length ≤ 60 := (sltOk_of hf).len
    rw [hf]
    clear hf
    cases h1 : inB b 0 1000
    · have HD : Hid (accD d b vl = errS 3) := accD_range HF.out (by rw [h1]; rfl)
      go_wp2_with (go_at_call 17; refine (l8Ballot_any _ _).mono ?_; rintro e w' ⟨rfl, hw'⟩; obtain rfl := hw'.symm; rw [h1])
      refine bodyPost_ret (v := .agg #[.int .i64 3, .int .i64 0, .int .i64 0, .int .i64 0, .int .i64 0, .int .i64 0, .int .i64 0, .int .i64 0, .slice none 0 0]) (by simp [results, Try.results10, go_sem, q0, q1, q2, q3, q4, q5, q6, q7, q8, qf]) rfl ?_
      rw [HD.out]
      first | exact ⟨_, rfl, ⟨_, sltR_nil _ _ 3 0 0 0 0 0 0 0⟩, by (repeat (first | refine bset ?_ (by simp; omega) _ | refine bset ?_ (by simp) _ | refine balloc ?_ _ | assumption))⟩ | exact ⟨_, _, rfl, sltR_nil _ _ 3 0 0 0 0 0 0 0, by (repeat (first | refine bset ?_ (by simp; omega) _ | refine bset ?_ (by simp) _ | refine balloc ?_ _ | assumption))⟩
    cases h2 : inB vl 1 2
    · have HD : Hid (accD d b vl = errS 3) := accD_range HF.out (by rw [h1, h2]; rfl)
      go_wp2_with (first | (go_at_call 17; refine (l8Ballot_any _ _).mono ?_; rintro e w' ⟨rfl, hw'⟩; obtain rfl := hw'.symm; rw [h1]) | (go_at_call 25; refine (l8Value_any _ _).mono ?_; rintro e w' ⟨rfl, hw'⟩; obtain rfl := hw'.symm; rw [h2]))
      refine bodyPost_ret (v := .agg #[.int .i64 3, .int .i64 0, .int .i64 0, .int .i64 0, .int .i64 0, .int .i64 0, .int .i64 0, .int .i64 0, .slice none 0 0]) (by simp [results, Try.results10, go_sem, q0, q1, q2, q3, q4, q5, q6, q7, q8, qf]) rfl ?_
      rw [HD.out]
      first | exact ⟨_, rfl, ⟨_, sltR_nil _ _ 3 0 0 0 0 0 0 0⟩, by (repeat (first | refine bset ?_ (by simp; omega) _ | refine bset ?_ (by simp) _ | refine balloc ?_ _ | assumption))⟩ | exact ⟨_, _, rfl, sltR_nil _ _ 3 0 0 0 0 0 0 0, by (repeat (first | refine bset ?_ (by simp; omega) _ | refine bset ?_ (by simp) _ | refine balloc ?_ _ | assumption))⟩
    have hr : (inB b 0 1000 && inB vl 1 2) = true := by rw [h1, h2]; rfl
    go_wp2_with (first | (go_at_call 17; refine (l8Ballot_any _ _).mono ?_; rintro e w' ⟨rfl, hw'⟩; obtain rfl := hw'.symm; rw [h1]) | (go_at_call 25; refine (l8Value_any _ _).mono ?_; rintro e w' ⟨rfl, hw'⟩; obtain rfl := hw'.symm; rw [h2]) | fail)
    refine (l8Accept_u _ d ⟨b, vl⟩ _ (sltR.below hX hB1) hl6).mono ?_
    rintro e w2 ⟨u, rfl, hb2, hu1, hu2⟩
    have hB2 : Below w.heap.size w w2 := bstep hB1 hb2
    replace y0 := cell_keep hb2 y0
    replace y1 := cell_keep hb2 y1
    replace y2 := cell_keep hb2 y2
    replace y3 := cell_keep hb2 y3
    replace y4 := cell_keep hb2 y4
    replace y5 := cell_keep hb2 y5
    replace yf : ∀ o, w2.frozen? ⟨w.heap.size, o, none⟩ = false := fun o => by rw [(bcell hb2).2 _ _ (by omega)]; exact yf o
    replace q0 := cell_keep hb2 q0
    replace q1 := cell_keep hb2 q1
    replace q2 := cell_keep hb2 q2
    replace q3 := cell_keep hb2 q3
    replace q4 := cell_keep hb2 q4
    replace q5 := cell_keep hb2 q5
    replace q6 := cell_keep hb2 q6
    replace q7 := cell_keep hb2 q7
    replace q8 := cell_keep hb2 q8
    replace qf : ∀ o, w2.frozen? ⟨w.heap.size + 1, o, none⟩ = false := fun o => by rw [(bcell hb2).2 _ _ (by omega)]; exact qf o
    have hs2 := hb2.size
    have zz0 : w.heap.size < w2.heap.size := World.block_lt_of_cell? w2 _ y0
    have zz1 : w.heap.size + 1 < w2.heap.size := World.block_lt_of_cell? w2 _ q0
    clear hb2 hB1
    by_cases hc : accC d ⟨b, vl⟩ = 0
    · have HD : Hid (accD d b vl = ⟨0, d.lb, d.lv, accS d ⟨b, vl⟩⟩) := accD_ok HF.out hr hc
      obtain ⟨F2, o2⟩ := hu2 hc
      rw [hc]
      clear hc hu1 hu2
      generalize accS d ⟨b, vl⟩ = s at *
      obtain ⟨u2, F1, rfl, ov, hF⟩ := o2
      obtain ⟨a2, c2, rfl⟩ := vots_form (votsR.ofO ov)
      clear hF hX
      go_wp2
      refine bodyPost_ret (v := .agg #[.int .i64 0, .int .i64 d.lb, .int .i64 d.lv, .int .i64 s.con, .int .i64 s.sh, .int .i64 s.pr, .int .i64 s.lb, .int .i64 s.lv, .slice a2 s.cast.length c2]) (by simp [results, Try.results10, go_sem, q0, q1, q2, q3, q4, q5, q6, q7, q8, qf, zz0, zz1]) rfl ?_
      rw [HD.out]
      refine ⟨_, fun b => F1 b, rfl, ?_, ?_⟩
      · refine ⟨.slice a2 s.cast.length c2, fun b => F1 b, rfl, ?_, fun b => Iff.rfl⟩
        refine ⟨.slice a2 s.cast.length c2, F1, rfl, ?_, fun b => Iff.rfl⟩
        refine votsR.base (base := w1.heap.size) ?_ (by omega)
        refine Rep.alloc _ ?_ _
        iterate 9 (refine Rep.set _ ?_ _ (by simp; omega))
        exact ov
      · skip
        refine balloc ?_ _
        iterate 9 (refine bset ?_ (by simp) _)
        exact hB2
    · have HD : Hid (accD d b vl = errS (accC d ⟨b, vl⟩)) := accD_code HF.out hr hc
      obtain rfl := hu1 hc
      generalize accC d ⟨b, vl⟩ = c at *
      clear hu1 hu2
      go_wp2
      refine bodyPost_ret (v := .agg #[.int .i64 c, .int .i64 0, .int .i64 0, .int .i64 0, .int .i64 0, .int .i64 0, .int .i64 0, .int .i64 0, .slice none 0 0]) (by simp [results, Try.results10, go_sem, q0, q1, q2, q3, q4, q5, q6, q7, q8, qf, zz0, zz1]) rfl ?_
      rw [HD.out]
      refine ⟨_, _, rfl, sltR_nil _ _ c 0 0 0 0 0 0 0, ?_⟩
      refine balloc ?_ _
      iterate 9 (refine bset ?_ (by simp) _)
      exact hB2
  · have HD : Hid (accD d b vl = errS (sltFault d)) := accD_fault hf
    generalize sltFault d = c at *
    go_wp2
    refine bodyPost_ret (v := .agg #[.int .i64 c, .int .i64 0, .int .i64 0, .int .i64 0, .int .i64 0, .int .i64 0, .int .i64 0, .int .i64 0, .slice none 0 0]) (by simp [results, Try.results10, go_sem, q0, q1, q2, q3, q4, q5, q6, q7, q8, qf]) rfl ?_
    rw [HD.out]
    first | exact ⟨_, rfl, ⟨_, sltR_nil _ _ c 0 0 0 0 0 0 0⟩, by (repeat (first | refine bset ?_ (by simp; omega) _ | refine bset ?_ (by simp) _ | refine balloc ?_ _ | assumption))⟩ | exact ⟨_, _, rfl, sltR_nil _ _ c 0 0 0 0 0 0 0, by (repeat (first | refine bset ?_ (by simp; omega) _ | refine bset ?_ (by simp) _ | refine balloc ?_ _ | assumption))⟩
end Go.Proofs.Ytjhmdnlkpkagiaa

/-
  Rows of bytes: copied, compared, counted, marked and read back.
-/
namespace Go.Proofs.Ytjhmdnlkpkagiaa
open Go.RowKit
attribute [local go_sem ↓] Go.wp_at_zero Go.wp_at_succ

abbrev Byte := Fin 256
def toB (n : Int) : Byte := ⟨(n % 256).toNat, by omega⟩
theorem toB_val (n : Int) : ((toB n).val : Int) = n % 256 := by simp only [toB]; omega
def bytesC (ys : List Byte) : List Value := ys.map (fun b => Value.int .u8 (b.val : Int))
theorem get_bytesC (ys : List Byte) (i : Nat) (h : i < ys.length) : (bytesC ys)[i]? = some (.int .u8 ((ys.getD i 0).val : Int)) := by
  simp [bytesC, List.getD, h]
def BytesV (w : World) (v : Value) (ys : List Byte) : Prop :=
  ∃ a cap, v = .slice a ys.length cap ∧ ys.length ≤ cap ∧ cap ≤ maxLen ∧ ∀ i, i < ys.length → ∃ b o, a = some ⟨b, o, none⟩ ∧ w.cell? ⟨b, o + i, none⟩ = some (.int .u8 ((ys.getD i 0).val : Int))
theorem BytesV_below {w w' : World} {v : Value} {ys : List Byte} (h : BytesV w v ys) (hb : Below w.heap.size w w') : BytesV w' v ys := by
  obtain ⟨a, cap, rfl, h1, h2, h3⟩ := h
  exact ⟨a, cap, rfl, h1, h2, fun i hi => by
    obtain ⟨b, o, ha, hc⟩ := h3 i hi
    exact ⟨b, o, ha, cell_keep hb hc⟩⟩
theorem BytesV_of_owns {w : World} {base e : Nat} {v : Value} {ys : List Byte} (h : w.ownsRow base e 1 v ys.length (bytesC ys)) : BytesV w v ys := by
  rcases h.2 with ⟨rfl, hn⟩ | ⟨g, cap, cur, rfl, hb, hg, hnc, hcm, hcs, htake⟩
  · exact ⟨none, 0, by rw [hn], by omega, by unfold maxLen; omega, fun i hi => by omega⟩
  · refine ⟨some ⟨g, 0, none⟩, cap, rfl, hnc, hcm, fun i hi => ⟨g, 0, rfl, ?_⟩⟩
    rw [Nat.zero_add]
    exact (h.cellAt i (by omega)).trans (get_bytesC ys i hi)
end Go.Proofs.Ytjhmdnlkpkagiaa

