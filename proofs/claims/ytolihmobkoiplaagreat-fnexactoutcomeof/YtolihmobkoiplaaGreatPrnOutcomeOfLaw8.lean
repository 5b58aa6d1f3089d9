import Derived.Test.YtolihmobkoiplaaGreatPrnOutcomeOfLaw7
import Derived.Test.YtolihmobkoiplaaGreatPrnOutcomeOfLaw4
import Derived.Deep.RegionHeld3
import Derived.Deep.DrawnRows
import Derived.BigQuiet
import Derived.Deep.QuietTactic

/-
  A region that draws its order, none of whose operations breaks what is asked of the world.
-/
namespace Go.Proofs.YtolihmobkoiplaaGreat
open Go.RowKit

section
variable {P : Program} {ops : Array Oper} {Q : Exit → Act → World → Prop} {md : Region.Mode} {S : World → Prop} {t : Nat}

theorem upto_firstN {i : Nat} {oi : Oper} {v : Value} (hi : ops[i]? = some oi) (hsel : Region.noSelect ops = true) (ht : ops[t]? = none)
    (hQ : ∀ c a w, Q (.panic c) (a.put oi.dst v) w → Q (.panic c) a w) :
    ∀ (f : Nat) (listed : Array Bool) (a : Act) (w : World),
      (∀ j oj, ops[j]? = some oj → j ≠ i → listed.getD j true = false → (∀ e ∈ oj.after, Region.binds md e = true → e.on ≠ i) → oi.apart ops oj = true) →
      i ∈ Region.ready md ops listed → YieldsIf P ops S oi v a → S w →
      wpUpto P md ops Q S t f (listed.setIfInBounds i true) (a.put oi.dst v) w → wpUpto P md ops Q S t (f + 1) listed a w := by
  intro f
  induction f with
  | zero =>
    intro listed a w _ hr hy hS H
    refine ⟨fun h => (by rw [h] at hr; cases hr), fun j hj => ?_⟩
    by_cases hji : j = i
    · subst hji
      exact hy.wpOp hi hS ⟨fun _ => hS, H⟩
    · have hm := ready_mono hj hji
      rw [H.1] at hm
      cases hm
  | succ f ih =>
    intro listed a w hfree hr hy hS H
    refine ⟨fun h => (by rw [h] at hr; cases hr), fun j hj => ?_⟩
    by_cases hji : j = i
    · subst hji
      exact hy.wpOp hi hS ⟨fun _ => hS, H⟩
    · obtain ⟨hjun, oj, hoj, hall⟩ := mem_ready.1 hj
      have hun := (mem_ready.1 hr).1
      have hnl : ¬ listed.getD i false = true := by
        intro h1
        rcases Nat.lt_or_ge i listed.size with h' | h'
        · simp [h'] at hun h1
          rw [hun] at h1
          cases h1
        · simp [Array.getElem?_eq_none h'] at h1
      have hnot : ∀ e ∈ oj.after, Region.binds md e = true → e.on ≠ i := fun e he hb heq => hnl (by rw [← heq]; exact hall e he hb)
      have hjt : j ≠ t := by
        rintro rfl
        rw [ht] at hoj
        cases hoj
      have h1 := H.2 j (ready_mono hj hji)
      have h2 := wpOp_putIf hoj (hfree j oj hoj hji hjun hnot) (fun cs b => Region.noSelect_spec hsel i oi cs b hi) (fun cs b => Region.noSelect_spec hsel j oj cs b hoj) hQ hy h1
      refine wpOp_mono (fun a' w' h3 => ⟨h3.2.1, ih (listed.setIfInBounds j true) a' w' ?_ (ready_mono hr (Ne.symm hji)) h3.1 (h3.2.1 hjt) ?_⟩) h2
      · intro k ok hk hki hunk hno
        refine hfree k ok hk hki ?_ hno
        by_cases hjk : j = k
        · subst hjk; exact hjun
        · rw [getD_set_ne true hjk] at hunk; exact hunk
      · rw [Array.setIfInBounds_comm _ _ hji]
        exact h3.2.2
theorem upto_takeN {i : Nat} {oi : Oper} {v : Value} {f : Nat} {listed : Array Bool} {a : Act} {w : World} (hi : ops[i]? = some oi) (hsel : Region.noSelect ops = true) (ht : ops[t]? = none)
    (hf : Region.free md ops listed i = true) (hr : (Region.ready md ops listed).contains i = true) (hQ : ∀ c a w, Q (.panic c) (a.put oi.dst v) w → Q (.panic c) a w)
    (hwd : Region.wanted oi (yielded ops a.tmps) = true) (hS : S w) (hy : ∀ w, S w → (execOp a.eval oi).run P w = .ok (.value v) w)
    (h : wpUpto P md ops Q S t f (listed.setIfInBounds i true) (a.put oi.dst v) w) : wpUpto P md ops Q S t (f + 1) listed a w :=
  upto_firstN hi hsel ht hQ f listed a w (Region.free_spec hi hf) (by simpa using hr) (Or.inl ⟨hwd, hy⟩) hS h
theorem upto_skipN {i : Nat} {oi : Oper} {f : Nat} {listed : Array Bool} {a : Act} {w : World} (hi : ops[i]? = some oi) (hsel : Region.noSelect ops = true) (ht : ops[t]? = none)
    (hf : Region.free md ops listed i = true) (hr : (Region.ready md ops listed).contains i = true) (hQ : ∀ c a w, Q (.panic c) (a.put oi.dst undef) w → Q (.panic c) a w)
    (hwd : Region.wanted oi (yielded ops a.tmps) = false) (hS : S w)
    (h : ∀ u : Value, wpUpto P md ops Q S t f (listed.setIfInBounds i true) (a.put oi.dst u) w) : wpUpto P md ops Q S t (f + 1) listed a w :=
  upto_firstN hi hsel ht hQ f listed a w (Region.free_spec hi hf) (by simpa using hr) (Or.inr ⟨hwd, rfl⟩) hS (h undef)
end

end Go.Proofs.YtolihmobkoiplaaGreat

/-
  SlotFault, the specification's.
-/
set_option linter.unusedSimpArgs false
namespace Go.Proofs.YtolihmobkoiplaaGreat
open Go.RowKit
set_option linter.unusedSectionVars false
variable [DecidableEq Vot] [Inhabited Vot] [DecidableEq Slt] [Inhabited Slt] [DecidableEq Bal] [Inhabited Bal] [DecidableEq Ledg] [Inhabited Ledg] [DecidableEq Leg] [Inhabited Leg]
attribute [local go_sem ↓] Go.wp_at_zero Go.wp_at_succ

set_option maxHeartbeats 1000000 in
theorem l8Last_any (x : Value) (d : Slt) (w : World) (hx : sltR.V w x d) :
    Calls Tryz.prog 69 #[x] w fun e w' => e = .returned (.agg #[.int .i64 (lastV d.cast d.cast.length).bal, .int .i64 (lastV d.cast d.cast.length).val]) ∧ Below w.heap.size w w' := by
  obtain ⟨u1, rfl, hx⟩ := hx
  obtain ⟨ax, cx, rfl, hcx, hmx, hx⟩ := hx
  unfold maxLen at hmx
  cases hn : d.cast.length with
  | zero =>
    rw [hn] at hcx hx
    clear hx
    rw [lastV_zero]
    go_enter Tryz.func69, Tryz.ntmps69
    go_wp2_with fail
    refine (l8None_any _).mono ?_
    rintro e w1 ⟨rfl, hb1⟩
    have hB : Below w.heap.size w w1 := bstep (by (repeat (first | exact Below.refl _ _ | assumption | refine Below.drew ?_ | refine balloc ?_ _ | refine bset ?_ (by simp; omega) _ | refine bset ?_ (by simp) _ | refine bstep ?_ (by assumption)))) hb1
    obtain ⟨c1, f1⟩ := bcell hb1
    go_wp2
    refine bodyPost_ret (v := .agg #[.int .i64 (-1), .int .i64 0]) ?_ rfl ⟨rfl, by (repeat (first | refine bset ?_ (by simp; omega) _ | refine bset ?_ (by simp) _ | refine balloc ?_ _ | assumption))⟩
    simp [results, Tryz.results69, go_sem, c1]
  | succ m =>
    rw [hn] at hcx hx
    rw [lastV_succ]
    obtain ⟨bx, ox, rfl, g1⟩ := hx m (by omega)
    clear hx
    generalize d.cast.getD m default = l at *
    clear hn
    obtain ⟨g0, g1⟩ := g1
    have v1 : IntKind.i64.wrap (m : Int) = m := wrapId (by omega) (by omega)
    have z5 : bx < w.heap.size := World.block_lt_of_cell? w _ g0
    go_enter Tryz.func69, Tryz.ntmps69
    go_wp2
    refine bodyPost_ret (v := .agg #[.int .i64 l.bal, .int .i64 l.val]) ?_ rfl ⟨rfl, by (repeat (first | exact Below.refl _ _ | assumption | refine Below.drew ?_ | refine balloc ?_ _ | refine bset ?_ (by simp; omega) _ | refine bset ?_ (by simp) _ | refine bstep ?_ (by assumption)))⟩
    simp [results, Tryz.results69, go_sem]
set_option maxHeartbeats 4000000 in
theorem specSlotF_any (x : Value) (d : Slt) (w : World) (hx : sltR.V w x d) :
    Calls Tryz.prog 48 #[x] w fun e w' => e = .returned (.int .i64 (sltFault d)) ∧ Below w.heap.size w w' := by
  have hX := hx
  obtain ⟨u1, rfl, hx⟩ := hx
  obtain ⟨ax, cx, rfl, hcx, hmx, hx⟩ := hx
  unfold maxLen at hmx
  cases h1 : inB d.con 1 1000000000
  · rw [sltF_range (by simp [sltRange, h1])]
    go_enter Tryz.func48, Tryz.ntmps48
    go_wp2_with (first | (go_at_call 30; refine (l1Id_any _ _).mono ?_; rintro e w' ⟨rfl, rfl⟩) | (go_at_call 50; refine (l1In_any _ _ _ _).mono ?_; rintro e w' ⟨rfl, rfl⟩))
    go_ret
    exact ⟨rfl, by (repeat (first | exact Below.refl _ _ | assumption | refine Below.drew ?_ | refine balloc ?_ _ | refine bset ?_ (by simp; omega) _ | refine bset ?_ (by simp) _ | refine bstep ?_ (by assumption)))⟩
  cases h2 : inB d.sh 0 2
  · rw [sltF_range (by simp [sltRange, h2])]
    go_enter Tryz.func48, Tryz.ntmps48
    go_wp2_with (first | (go_at_call 30; refine (l1Id_any _ _).mono ?_; rintro e w' ⟨rfl, rfl⟩) | (go_at_call 50; refine (l1In_any _ _ _ _).mono ?_; rintro e w' ⟨rfl, rfl⟩))
    go_ret
    exact ⟨rfl, by (repeat (first | exact Below.refl _ _ | assumption | refine Below.drew ?_ | refine balloc ?_ _ | refine bset ?_ (by simp; omega) _ | refine bset ?_ (by simp) _ | refine bstep ?_ (by assumption)))⟩
  cases h3 : inB d.pr (-1) 1000
  · rw [sltF_range (by simp [sltRange, h3])]
    go_enter Tryz.func48, Tryz.ntmps48
    go_wp2_with (first | (go_at_call 30; refine (l1Id_any _ _).mono ?_; rintro e w' ⟨rfl, rfl⟩) | (go_at_call 50; refine (l1In_any _ _ _ _).mono ?_; rintro e w' ⟨rfl, rfl⟩))
    go_ret
    exact ⟨rfl, by (repeat (first | exact Below.refl _ _ | assumption | refine Below.drew ?_ | refine balloc ?_ _ | refine bset ?_ (by simp; omega) _ | refine bset ?_ (by simp) _ | refine bstep ?_ (by assumption)))⟩
  have hR : Hid (sltRange d = true) := by show _ = _; simp [sltRange, h1, h2, h3]
  by_cases h6 : 60 < d.cast.length
  · rw [sltF_many hR.out h6]
    go_enter Tryz.func48, Tryz.ntmps48
    go_wp2_with (first | (go_at_call 30; refine (l1Id_any _ _).mono ?_; rintro e w' ⟨rfl, rfl⟩) | (go_at_call 50; refine (l1In_any _ _ _ _).mono ?_; rintro e w' ⟨rfl, rfl⟩))
    go_ret
    exact ⟨rfl, by (repeat (first | exact Below.refl _ _ | assumption | refine Below.drew ?_ | refine balloc ?_ _ | refine bset ?_ (by simp; omega) _ | refine bset ?_ (by simp) _ | refine bstep ?_ (by assumption)))⟩
  obtain ⟨xs, hxs⟩ : ∃ xs, xs = d.cast := ⟨_, rfl⟩
  have HXS : Hid (d.cast = xs) := hxs.symm
  rw [← hxs] at h6 hcx hx hX ⊢
  clear hxs
  obtain ⟨n, hn'⟩ : ∃ n, n = xs.length := ⟨_, rfl⟩
  have HN : Hid (xs.length = n) := hn'.symm
  rw [← hn'] at h6 hcx hx hX ⊢
  clear hn'
  go_enter Tryz.func48, Tryz.ntmps48
  go_wp2_with (first | (go_at_call 30; refine (l1Id_any _ _).mono ?_; rintro e w' ⟨rfl, rfl⟩) | (go_at_call 50; refine (l1In_any _ _ _ _).mono ?_; rintro e w' ⟨rfl, rfl⟩))
  go_loopw [3] (fun i w' => ∃ k : Nat, k ≤ n ∧ i = .int .i64 k ∧ scanI (votAt xs) k = 0 ∧ (w'.cell? ⟨w.heap.size, 0, none⟩ = some (.int .i64 d.con) ∧ w'.cell? ⟨w.heap.size, 1, none⟩ = some (.int .i64 d.sh) ∧ w'.cell? ⟨w.heap.size, 2, none⟩ = some (.int .i64 d.pr) ∧ w'.cell? ⟨w.heap.size, 3, none⟩ = some (.int .i64 d.lb) ∧ w'.cell? ⟨w.heap.size, 4, none⟩ = some (.int .i64 d.lv) ∧ w'.cell? ⟨w.heap.size, 5, none⟩ = some (.slice ax n cx)) ∧ Below w.heap.size w w') (fun i _ => n - (intOf i).toNat)
  case atStart => exact ⟨0, Nat.zero_le _, rfl, rfl, ⟨by simp [go_sem], by simp [go_sem], by simp [go_sem], by simp [go_sem], by simp [go_sem], by simp [go_sem]⟩, by (repeat (first | exact Below.refl _ _ | assumption | refine Below.drew ?_ | refine balloc ?_ _ | refine bset ?_ (by simp; omega) _ | refine bset ?_ (by simp) _ | refine bstep ?_ (by assumption)))⟩
  case round =>
    obtain ⟨k, hk, rfl, hs, ⟨c0, c1, c2, c3, c4, c5⟩, hbl⟩ := hrel
    have HS : Hid (scanI (votAt xs) k = 0) := hs
    clear hs
    have z0 : w.heap.size < wr.heap.size := World.block_lt_of_cell? wr _ c0
    by_cases hlt : k < n
    · obtain ⟨bx, ox, rfl, g1⟩ := hx k hlt
      obtain ⟨l, hl⟩ : ∃ l, l = xs.getD k default := ⟨_, rfl⟩
      rw [← hl] at g1
      have HL : Hid (l = xs.getD k default) := hl
      clear hl
      obtain ⟨a1, a2⟩ := votCells_below hbl g1
      cases v1 : inB l.bal 0 1000
      · clear hx
        go_wp2_with (first | (go_at_call 67; refine (l8Ballot_any _ _).mono ?_; rintro e w' ⟨rfl, rfl⟩) | (go_at_call 68; refine (l8Value_any _ _).mono ?_; rintro e w' ⟨rfl, rfl⟩))
        go_ret
        refine ⟨?_, by (repeat (first | exact Below.refl _ _ | assumption | refine Below.drew ?_ | refine balloc ?_ _ | refine bset ?_ (by simp; omega) _ | refine bset ?_ (by simp) _ | refine bstep ?_ (by assumption)))⟩
        rw [sltF_hit (k := k) (c := 3) hR.out (by rw [HXS.out, HN.out]; omega) (by rw [HXS.out, HN.out]; exact hlt) (by rw [HXS.out]; exact HS.out) (by rw [HXS.out]; exact votAt_bad (by rw [← HL.out]; simp [votB, v1])) (by omega)]
        rfl
      cases v2 : inB l.val 1 2
      · clear hx
        go_wp2_with (first | (go_at_call 67; refine (l8Ballot_any _ _).mono ?_; rintro e w' ⟨rfl, rfl⟩) | (go_at_call 68; refine (l8Value_any _ _).mono ?_; rintro e w' ⟨rfl, rfl⟩))
        go_ret
        refine ⟨?_, by (repeat (first | exact Below.refl _ _ | assumption | refine Below.drew ?_ | refine balloc ?_ _ | refine bset ?_ (by simp; omega) _ | refine bset ?_ (by simp) _ | refine bstep ?_ (by assumption)))⟩
        rw [sltF_hit (k := k) (c := 3) hR.out (by rw [HXS.out, HN.out]; omega) (by rw [HXS.out, HN.out]; exact hlt) (by rw [HXS.out]; exact HS.out) (by rw [HXS.out]; exact votAt_bad (by rw [← HL.out]; simp [votB, v2])) (by omega)]
        rfl
      have hok : Hid (votB (xs.getD k default) = true) := by show _ = _; rw [← HL.out]; simp [votB, v1, v2]
      cases k with
      | zero =>
        clear hx
        simp only [Nat.zero_mul, Nat.add_zero] at a1 a2
        go_wp2_with (first | (go_at_call 67; refine (l8Ballot_any _ _).mono ?_; rintro e w' ⟨rfl, rfl⟩) | (go_at_call 68; refine (l8Value_any _ _).mono ?_; rintro e w' ⟨rfl, rfl⟩))
        go_quiet (fail)
        go_wp2
        exact ⟨⟨1, by omega, by go_num, scanI_succ HS.out (votAt_ok hok.out (by rw [lastV_zero]; exact other_none hok.out)), ⟨cell_keep (bdrewN (balloc (Below.refl _ _) _) _) c0, cell_keep (bdrewN (balloc (Below.refl _ _) _) _) c1, cell_keep (bdrewN (balloc (Below.refl _ _) _) _) c2, cell_keep (bdrewN (balloc (Below.refl _ _) _) _) c3, cell_keep (bdrewN (balloc (Below.refl _ _) _) _) c4, cell_keep (bdrewN (balloc (Below.refl _ _) _) _) c5⟩, bdrewN (balloc hbl _) _⟩, by simp [intOf]; omega⟩
      | succ m =>
        obtain ⟨b', o', he, g2⟩ := hx m (by omega)
        simp only [Option.some.injEq, Addr.mk.injEq, and_true] at he
        obtain ⟨rfl, rfl⟩ := he
        obtain ⟨o, ho⟩ : ∃ o, o = xs.getD m default := ⟨_, rfl⟩
        rw [← ho] at g2
        have HO : Hid (o = xs.getD m default) := ho
        clear ho hx
        obtain ⟨d1, d2⟩ := votCells_below hbl g2
        have i1 : (m : Int) < (n : Int) := by omega
        have z5 : bx < wr.heap.size := World.block_lt_of_cell? wr _ d1
        have i2 : m < n := by omega
        have w1 : IntKind.i64.wrap (m : Int) = m := wrapId (by omega) (by omega)
        have hL : Hid (∀ c, votAt xs (m + 1) = c ↔ (if other l o = true then 1 else 0) = c) := by
          intro c
          unfold votAt
          rw [hok.out, lastV_succ, ← HL.out, ← HO.out]
          simp
        by_cases q1 : l.bal < o.bal
        · have e1 : decide (l.bal < o.bal) = true := by simp [q1]
          go_wp2_with (first | (go_at_call 67; refine (l8Ballot_any _ _).mono ?_; rintro e w' ⟨rfl, rfl⟩) | (go_at_call 68; refine (l8Value_any _ _).mono ?_; rintro e w' ⟨rfl, rfl⟩))
          go_quiet (fail)
          go_wp2
          go_ret
          refine ⟨?_, bdrewN (balloc hbl _) _⟩
          rw [sltF_hit (k := m + 1) (c := 1) hR.out (by rw [HXS.out, HN.out]; omega) (by rw [HXS.out, HN.out]; exact hlt) (by rw [HXS.out]; exact HS.out) (by rw [HXS.out]; exact (hL.out 1).2 (by simp [other, q1])) (by omega)]
          rfl
        have e1 : decide (l.bal < o.bal) = false := by simp [q1]
        by_cases q2 : l.bal = o.bal
        · have e2 : (l.bal == o.bal) = true := by simp [q2]
          by_cases q3 : l.val = o.val
          · have e3 : (l.val != o.val) = false := by simp [q3]
            have HQ : Hid (other l o = false) := by show _ = _; simp [other, q2, q3]
            clear q1 q2 q3
            go_wp2_with (first | (go_at_call 67; refine (l8Ballot_any _ _).mono ?_; rintro e w' ⟨rfl, rfl⟩) | (go_at_call 68; refine (l8Value_any _ _).mono ?_; rintro e w' ⟨rfl, rfl⟩))
            go_quiet (fail)
            go_wp2
            exact ⟨⟨m + 1 + 1, by omega, by go_num, scanI_succ HS.out ((hL.out 0).2 (by rw [HQ.out]; rfl)), ⟨cell_keep (bdrewN (balloc (Below.refl _ _) _) _) c0, cell_keep (bdrewN (balloc (Below.refl _ _) _) _) c1, cell_keep (bdrewN (balloc (Below.refl _ _) _) _) c2, cell_keep (bdrewN (balloc (Below.refl _ _) _) _) c3, cell_keep (bdrewN (balloc (Below.refl _ _) _) _) c4, cell_keep (bdrewN (balloc (Below.refl _ _) _) _) c5⟩, bdrewN (balloc hbl _) _⟩, by simp [intOf]; omega⟩
          · have e3 : (l.val != o.val) = true := by simp [q3]
            have HQ : Hid (other l o = true) := by show _ = _; simp [other, q2, q3]
            clear q1 q2 q3
            go_wp2_with (first | (go_at_call 67; refine (l8Ballot_any _ _).mono ?_; rintro e w' ⟨rfl, rfl⟩) | (go_at_call 68; refine (l8Value_any _ _).mono ?_; rintro e w' ⟨rfl, rfl⟩))
            go_quiet (fail)
            go_wp2
            go_ret
            refine ⟨?_, bdrewN (balloc hbl _) _⟩
            rw [sltF_hit (k := m + 1) (c := 1) hR.out (by rw [HXS.out, HN.out]; omega) (by rw [HXS.out, HN.out]; exact hlt) (by rw [HXS.out]; exact HS.out) (by rw [HXS.out]; exact (hL.out 1).2 (by rw [HQ.out]; rfl)) (by omega)]
            rfl
        · have e2 : (l.bal == o.bal) = false := by simp [q2]
          have HQ : Hid (other l o = false) := by show _ = _; simp [other, q1, q2]
          clear q1 q2
          go_wp2_with (first | (go_at_call 67; refine (l8Ballot_any _ _).mono ?_; rintro e w' ⟨rfl, rfl⟩) | (go_at_call 68; refine (l8Value_any _ _).mono ?_; rintro e w' ⟨rfl, rfl⟩))
          go_quiet (fail)
          go_wp2
          exact ⟨⟨m + 1 + 1, by omega, by go_num, scanI_succ HS.out ((hL.out 0).2 (by rw [HQ.out]; rfl)), ⟨cell_keep (bdrewN (balloc (Below.refl _ _) _) _) c0, cell_keep (bdrewN (balloc (Below.refl _ _) _) _) c1, cell_keep (bdrewN (balloc (Below.refl _ _) _) _) c2, cell_keep (bdrewN (balloc (Below.refl _ _) _) _) c3, cell_keep (bdrewN (balloc (Below.refl _ _) _) _) c4, cell_keep (bdrewN (balloc (Below.refl _ _) _) _) c5⟩, bdrewN (balloc hbl _) _⟩, by simp [intOf]; omega⟩
    · have hkn : k = n := by omega
      subst hkn
      have HE : Hid (sltFault d = if (d.lb = (lastV xs k).bal ∧ d.lv = (lastV xs k).val) ∧ d.lb ≤ d.pr then 0 else 1) := by
        show _ = _
        rw [sltF_end hR.out (by rw [HXS.out, HN.out]; omega) (by rw [HXS.out, HN.out]; exact HS.out), HXS.out, HN.out]
      have hLast := fun W h => l8Last_any (.agg #[.int .i64 d.con, .int .i64 d.sh, .int .i64 d.pr, .int .i64 d.lb, .int .i64 d.lv, .slice ax k cx]) d W h
      rw [HXS.out, HN.out] at hLast
      obtain ⟨q, hq⟩ : ∃ q, q = lastV xs k := ⟨_, rfl⟩
      have HQ : Hid (lastV xs k = q) := hq.symm
      rw [← hq] at hLast
      clear hq hx hlt
      have HLast : Hid (∀ W, Below wr.heap.size wr W → Calls Tryz.prog 69 #[.agg #[.int .i64 d.con, .int .i64 d.sh, .int .i64 d.pr, .int .i64 d.lb, .int .i64 d.lv, .slice ax k cx]] W fun e w' => e = .returned (.agg #[.int .i64 q.bal, .int .i64 q.val]) ∧ Below W.heap.size W w') := fun W h => hLast W (sltR.below hX (bstep hbl h))
      clear hLast hX
      cases he : (decide (d.lb = q.bal) && decide (d.lv = q.val))
      · clear h1 h2 h3
        have heq : ∀ w, (binOp .neq 63 (.agg #[.int .i64 d.lb, .int .i64 d.lv]) (.agg #[.int .i64 q.bal, .int .i64 q.val])).run Tryz.prog w = .ok (.bool true) w := fun w => by rw [neqVot, he]; rfl
        go_wp2
        refine wp_region_noPanic ?_
        refine region_upto (fun W => Below wr.heap.size wr W ∧ W.cell? ⟨w.heap.size, 0, none⟩ = some (.int .i64 d.con) ∧ W.cell? ⟨w.heap.size, 1, none⟩ = some (.int .i64 d.sh) ∧ W.cell? ⟨w.heap.size, 2, none⟩ = some (.int .i64 d.pr) ∧ W.cell? ⟨w.heap.size, 3, none⟩ = some (.int .i64 d.lb) ∧ W.cell? ⟨w.heap.size, 4, none⟩ = some (.int .i64 d.lv) ∧ W.cell? ⟨w.heap.size, 5, none⟩ = some (.slice ax k cx)) 13 (by kernel_rfl) (keepN6 (by (repeat (first | exact Below.refl _ _ | assumption | refine Below.drew ?_ | refine balloc ?_ _ | refine bset ?_ (by simp; omega) _ | refine bset ?_ (by simp) _ | refine bstep ?_ (by assumption)))) c0 c1 c2 c3 c4 c5) (fun hS => ?_)
        refine upto_takeN (i := 0) (v := ?_) rfl (by kernel_rfl) (by kernel_rfl) (by kernel_rfl) (by kernel_rfl) (fun _ _ _ h => h) (by rfl) hS ?_ ?_
        rotate_left
        · intro wS hSw
          try dsimp only at hSw
          first | (go_simp; done) | (go_simp; with_reducible rfl)
        try simp only [Act.put, List.getElem_toArray, List.getElem_cons_zero, List.getElem_cons_succ, List.setIfInBounds_toArray, List.set_cons_zero, List.set_cons_succ]
        refine upto_takeN (i := 1) (v := ?_) rfl (by kernel_rfl) (by kernel_rfl) (by kernel_rfl) (by kernel_rfl) (fun _ _ _ h => h) (by rfl) hS ?_ ?_
        rotate_left
        · intro wS hSw
          try dsimp only at hSw
          first | (go_simp; done) | (go_simp; with_reducible rfl)
        try simp only [Act.put, List.getElem_toArray, List.getElem_cons_zero, List.getElem_cons_succ, List.setIfInBounds_toArray, List.set_cons_zero, List.set_cons_succ]
        refine upto_takeN (i := 2) (v := ?_) rfl (by kernel_rfl) (by kernel_rfl) (by kernel_rfl) (by kernel_rfl) (fun _ _ _ h => h) (by rfl) hS ?_ ?_
        rotate_left
        · intro wS hSw
          try dsimp only at hSw
          first | (go_simp; done) | (go_simp; with_reducible rfl)
        try simp only [Act.put, List.getElem_toArray, List.getElem_cons_zero, List.getElem_cons_succ, List.setIfInBounds_toArray, List.set_cons_zero, List.set_cons_succ]
        refine upto_step (i := 3) (by kernel_rfl) rfl ?_
        intro K hK
        go_simp
        refine (HLast.out _ hS.1).mono ?_
        rintro e w3 ⟨rfl, hb3⟩
        have hS3 : (fun W => Below wr.heap.size wr W ∧ W.cell? ⟨w.heap.size, 0, none⟩ = some (.int .i64 d.con) ∧ W.cell? ⟨w.heap.size, 1, none⟩ = some (.int .i64 d.sh) ∧ W.cell? ⟨w.heap.size, 2, none⟩ = some (.int .i64 d.pr) ∧ W.cell? ⟨w.heap.size, 3, none⟩ = some (.int .i64 d.lb) ∧ W.cell? ⟨w.heap.size, 4, none⟩ = some (.int .i64 d.lv) ∧ W.cell? ⟨w.heap.size, 5, none⟩ = some (.slice ax k cx)) w3 := ⟨bstep hS.1 hb3, cell_keep hb3 hS.2.1, cell_keep hb3 hS.2.2.1, cell_keep hb3 hS.2.2.2.1, cell_keep hb3 hS.2.2.2.2.1, cell_keep hb3 hS.2.2.2.2.2.1, cell_keep hb3 hS.2.2.2.2.2.2⟩
        refine hK _ _ (fun _ => hS3) ?_
        clear hK K hS hb3
        try simp only [Act.put, List.getElem_toArray, List.getElem_cons_zero, List.getElem_cons_succ, List.setIfInBounds_toArray, List.set_cons_zero, List.set_cons_succ]
        refine upto_takeN (i := 4) (v := (.bool true)) rfl (by kernel_rfl) (by kernel_rfl) (by kernel_rfl) (by kernel_rfl) (fun _ _ _ h => h) (by rfl) hS3 ?_ ?_
        · intro wS hSw
          try dsimp only at hSw
          go_simp
        try simp only [Act.put, List.getElem_toArray, List.getElem_cons_zero, List.getElem_cons_succ, List.setIfInBounds_toArray, List.set_cons_zero, List.set_cons_succ]
        refine upto_takeN (i := 5) (v := (.bool true)) rfl (by kernel_rfl) (by kernel_rfl) (by kernel_rfl) (by kernel_rfl) (fun _ _ _ h => h) (by rfl) hS3 ?_ ?_
        · intro wS hSw
          try dsimp only at hSw
          go_simp
        try simp only [Act.put, List.getElem_toArray, List.getElem_cons_zero, List.getElem_cons_succ, List.setIfInBounds_toArray, List.set_cons_zero, List.set_cons_succ]
        refine upto_skipN (i := 6) rfl (by kernel_rfl) (by kernel_rfl) (by kernel_rfl) (by kernel_rfl) (fun _ _ _ h => h) (by rfl) hS3 (fun q6 => ?_)
        try simp only [Act.put, List.getElem_toArray, List.getElem_cons_zero, List.getElem_cons_succ, List.setIfInBounds_toArray, List.set_cons_zero, List.set_cons_succ]
        refine upto_skipN (i := 7) rfl (by kernel_rfl) (by kernel_rfl) (by kernel_rfl) (by kernel_rfl) (fun _ _ _ h => h) (by rfl) hS3 (fun q7 => ?_)
        try simp only [Act.put, List.getElem_toArray, List.getElem_cons_zero, List.getElem_cons_succ, List.setIfInBounds_toArray, List.set_cons_zero, List.set_cons_succ]
        refine upto_skipN (i := 8) rfl (by kernel_rfl) (by kernel_rfl) (by kernel_rfl) (by kernel_rfl) (fun _ _ _ h => h) (by rfl) hS3 (fun q8 => ?_)
        try simp only [Act.put, List.getElem_toArray, List.getElem_cons_zero, List.getElem_cons_succ, List.setIfInBounds_toArray, List.set_cons_zero, List.set_cons_succ]
        refine upto_skipN (i := 9) rfl (by kernel_rfl) (by kernel_rfl) (by kernel_rfl) (by kernel_rfl) (fun _ _ _ h => h) (by rfl) hS3 (fun q9 => ?_)
        try simp only [Act.put, List.getElem_toArray, List.getElem_cons_zero, List.getElem_cons_succ, List.setIfInBounds_toArray, List.set_cons_zero, List.set_cons_succ]
        refine upto_skipN (i := 10) rfl (by kernel_rfl) (by kernel_rfl) (by kernel_rfl) (by kernel_rfl) (fun _ _ _ h => h) (by rfl) hS3 (fun q10 => ?_)
        try simp only [Act.put, List.getElem_toArray, List.getElem_cons_zero, List.getElem_cons_succ, List.setIfInBounds_toArray, List.set_cons_zero, List.set_cons_succ]
        refine upto_skipN (i := 11) rfl (by kernel_rfl) (by kernel_rfl) (by kernel_rfl) (by kernel_rfl) (fun _ _ _ h => h) (by rfl) hS3 (fun q11 => ?_)
        try simp only [Act.put, List.getElem_toArray, List.getElem_cons_zero, List.getElem_cons_succ, List.setIfInBounds_toArray, List.set_cons_zero, List.set_cons_succ]
        refine upto_takeN (i := 12) (v := (.bool true)) rfl (by kernel_rfl) (by kernel_rfl) (by kernel_rfl) (by kernel_rfl) (fun _ _ _ h => h) (by rfl) hS3 ?_ ?_
        · intro wS hSw
          try dsimp only at hSw
          go_simp
        try simp only [Act.put, List.getElem_toArray, List.getElem_cons_zero, List.getElem_cons_succ, List.setIfInBounds_toArray, List.set_cons_zero, List.set_cons_succ]
        refine upto_done (by kernel_rfl) ?_
        refine NoPanic.normal ?_
        have hB3 := bstep hbl hS3.1
        clear hS3
        go_wp2
        go_ret
        refine ⟨?_, hB3⟩
        rw [HE.out, HQ.out, if_neg (by simp at he; rintro ⟨⟨e1, e2⟩, _⟩; exact he e1 e2)]
        rfl
      · clear h1 h2 h3
        have heq : ∀ w, (binOp .neq 63 (.agg #[.int .i64 d.lb, .int .i64 d.lv]) (.agg #[.int .i64 q.bal, .int .i64 q.val])).run Tryz.prog w = .ok (.bool false) w := fun w => by rw [neqVot, he]; rfl
        go_wp2
        refine wp_region_noPanic ?_
        refine region_upto (fun W => Below wr.heap.size wr W ∧ W.cell? ⟨w.heap.size, 0, none⟩ = some (.int .i64 d.con) ∧ W.cell? ⟨w.heap.size, 1, none⟩ = some (.int .i64 d.sh) ∧ W.cell? ⟨w.heap.size, 2, none⟩ = some (.int .i64 d.pr) ∧ W.cell? ⟨w.heap.size, 3, none⟩ = some (.int .i64 d.lb) ∧ W.cell? ⟨w.heap.size, 4, none⟩ = some (.int .i64 d.lv) ∧ W.cell? ⟨w.heap.size, 5, none⟩ = some (.slice ax k cx)) 13 (by kernel_rfl) (keepN6 (by (repeat (first | exact Below.refl _ _ | assumption | refine Below.drew ?_ | refine balloc ?_ _ | refine bset ?_ (by simp; omega) _ | refine bset ?_ (by simp) _ | refine bstep ?_ (by assumption)))) c0 c1 c2 c3 c4 c5) (fun hS => ?_)
        refine upto_takeN (i := 0) (v := ?_) rfl (by kernel_rfl) (by kernel_rfl) (by kernel_rfl) (by kernel_rfl) (fun _ _ _ h => h) (by rfl) hS ?_ ?_
        rotate_left
        · intro wS hSw
          try dsimp only at hSw
          first | (go_simp; done) | (go_simp; with_reducible rfl)
        try simp only [Act.put, List.getElem_toArray, List.getElem_cons_zero, List.getElem_cons_succ, List.setIfInBounds_toArray, List.set_cons_zero, List.set_cons_succ]
        refine upto_takeN (i := 1) (v := ?_) rfl (by kernel_rfl) (by kernel_rfl) (by kernel_rfl) (by kernel_rfl) (fun _ _ _ h => h) (by rfl) hS ?_ ?_
        rotate_left
        · intro wS hSw
          try dsimp only at hSw
          first | (go_simp; done) | (go_simp; with_reducible rfl)
        try simp only [Act.put, List.getElem_toArray, List.getElem_cons_zero, List.getElem_cons_succ, List.setIfInBounds_toArray, List.set_cons_zero, List.set_cons_succ]
        refine upto_takeN (i := 2) (v := ?_) rfl (by kernel_rfl) (by kernel_rfl) (by kernel_rfl) (by kernel_rfl) (fun _ _ _ h => h) (by rfl) hS ?_ ?_
        rotate_left
        · intro wS hSw
          try dsimp only at hSw
          first | (go_simp; done) | (go_simp; with_reducible rfl)
        try simp only [Act.put, List.getElem_toArray, List.getElem_cons_zero, List.getElem_cons_succ, List.setIfInBounds_toArray, List.set_cons_zero, List.set_cons_succ]
        refine upto_step (i := 3) (by kernel_rfl) rfl ?_
        intro K hK
        go_simp
        refine (HLast.out _ hS.1).mono ?_
        rintro e w3 ⟨rfl, hb3⟩
        have hS3 : (fun W => Below wr.heap.size wr W ∧ W.cell? ⟨w.heap.size, 0, none⟩ = some (.int .i64 d.con) ∧ W.cell? ⟨w.heap.size, 1, none⟩ = some (.int .i64 d.sh) ∧ W.cell? ⟨w.heap.size, 2, none⟩ = some (.int .i64 d.pr) ∧ W.cell? ⟨w.heap.size, 3, none⟩ = some (.int .i64 d.lb) ∧ W.cell? ⟨w.heap.size, 4, none⟩ = some (.int .i64 d.lv) ∧ W.cell? ⟨w.heap.size, 5, none⟩ = some (.slice ax k cx)) w3 := ⟨bstep hS.1 hb3, cell_keep hb3 hS.2.1, cell_keep hb3 hS.2.2.1, cell_keep hb3 hS.2.2.2.1, cell_keep hb3 hS.2.2.2.2.1, cell_keep hb3 hS.2.2.2.2.2.1, cell_keep hb3 hS.2.2.2.2.2.2⟩
        refine hK _ _ (fun _ => hS3) ?_
        clear hK K hS hb3
        try simp only [Act.put, List.getElem_toArray, List.getElem_cons_zero, List.getElem_cons_succ, List.setIfInBounds_toArray, List.set_cons_zero, List.set_cons_succ]
        refine upto_takeN (i := 4) (v := (.bool false)) rfl (by kernel_rfl) (by kernel_rfl) (by kernel_rfl) (by kernel_rfl) (fun _ _ _ h => h) (by rfl) hS3 ?_ ?_
        · intro wS hSw
          try dsimp only at hSw
          go_simp
        try simp only [Act.put, List.getElem_toArray, List.getElem_cons_zero, List.getElem_cons_succ, List.setIfInBounds_toArray, List.set_cons_zero, List.set_cons_succ]
        refine upto_takeN (i := 5) (v := (.bool false)) rfl (by kernel_rfl) (by kernel_rfl) (by kernel_rfl) (by kernel_rfl) (fun _ _ _ h => h) (by rfl) hS3 ?_ ?_
        · intro wS hSw
          try dsimp only at hSw
          go_simp
        try simp only [Act.put, List.getElem_toArray, List.getElem_cons_zero, List.getElem_cons_succ, List.setIfInBounds_toArray, List.set_cons_zero, List.set_cons_succ]
        refine upto_takeN (i := 6) (v := ?_) rfl (by kernel_rfl) (by kernel_rfl) (by kernel_rfl) (by kernel_rfl) (fun _ _ _ h => h) (by rfl) hS3 ?_ ?_
        rotate_left
        · intro wS hSw
          try dsimp only at hSw
          first | (go_simp; done) | (go_simp; with_reducible rfl)
        try simp only [Act.put, List.getElem_toArray, List.getElem_cons_zero, List.getElem_cons_succ, List.setIfInBounds_toArray, List.set_cons_zero, List.set_cons_succ]
        refine upto_takeN (i := 7) (v := ?_) rfl (by kernel_rfl) (by kernel_rfl) (by kernel_rfl) (by kernel_rfl) (fun _ _ _ h => h) (by rfl) hS3 ?_ ?_
        rotate_left
        · intro wS hSw
          try dsimp only at hSw
          first | (go_simp; done) | (go_simp; with_reducible rfl)
        try simp only [Act.put, List.getElem_toArray, List.getElem_cons_zero, List.getElem_cons_succ, List.setIfInBounds_toArray, List.set_cons_zero, List.set_cons_succ]
        refine upto_takeN (i := 8) (v := ?_) rfl (by kernel_rfl) (by kernel_rfl) (by kernel_rfl) (by kernel_rfl) (fun _ _ _ h => h) (by rfl) hS3 ?_ ?_
        rotate_left
        · intro wS hSw
          try dsimp only at hSw
          first | (go_simp; done) | (go_simp; with_reducible rfl)
        try simp only [Act.put, List.getElem_toArray, List.getElem_cons_zero, List.getElem_cons_succ, List.setIfInBounds_toArray, List.set_cons_zero, List.set_cons_succ]
        refine upto_takeN (i := 9) (v := ?_) rfl (by kernel_rfl) (by kernel_rfl) (by kernel_rfl) (by kernel_rfl) (fun _ _ _ h => h) (by rfl) hS3 ?_ ?_
        rotate_left
        · intro wS hSw
          try dsimp only at hSw
          first | (go_simp; done) | (go_simp; with_reducible rfl)
        try simp only [Act.put, List.getElem_toArray, List.getElem_cons_zero, List.getElem_cons_succ, List.setIfInBounds_toArray, List.set_cons_zero, List.set_cons_succ]
        refine upto_takeN (i := 10) (v := ?_) rfl (by kernel_rfl) (by kernel_rfl) (by kernel_rfl) (by kernel_rfl) (fun _ _ _ h => h) (by rfl) hS3 ?_ ?_
        rotate_left
        · intro wS hSw
          try dsimp only at hSw
          first | (go_simp; done) | (go_simp; with_reducible rfl)
        try simp only [Act.put, List.getElem_toArray, List.getElem_cons_zero, List.getElem_cons_succ, List.setIfInBounds_toArray, List.set_cons_zero, List.set_cons_succ]
        refine upto_takeN (i := 11) (v := ?_) rfl (by kernel_rfl) (by kernel_rfl) (by kernel_rfl) (by kernel_rfl) (fun _ _ _ h => h) (by rfl) hS3 ?_ ?_
        rotate_left
        · intro wS hSw
          try dsimp only at hSw
          first | (go_simp; done) | (go_simp; with_reducible rfl)
        try simp only [Act.put, List.getElem_toArray, List.getElem_cons_zero, List.getElem_cons_succ, List.setIfInBounds_toArray, List.set_cons_zero, List.set_cons_succ]
        refine upto_takeN (i := 12) (v := ?_) rfl (by kernel_rfl) (by kernel_rfl) (by kernel_rfl) (by kernel_rfl) (fun _ _ _ h => h) (by rfl) hS3 ?_ ?_
        rotate_left
        · intro wS hSw
          try dsimp only at hSw
          first | (go_simp; done) | (go_simp; with_reducible rfl)
        try simp only [Act.put, List.getElem_toArray, List.getElem_cons_zero, List.getElem_cons_succ, List.setIfInBounds_toArray, List.set_cons_zero, List.set_cons_succ]
        refine upto_done (by kernel_rfl) ?_
        refine NoPanic.normal ?_
        have hB3 := bstep hbl hS3.1
        clear hS3
        go_wp2
        · rename_i hle
          go_ret
          refine ⟨?_, hB3⟩
          rw [HE.out, HQ.out, if_neg (by rintro ⟨_, h⟩; omega)]
          rfl
        · rename_i hle
          go_ret
          refine ⟨?_, hB3⟩
          simp at he
          rw [HE.out, HQ.out, if_pos ⟨he, by omega⟩]
          rfl
end Go.Proofs.YtolihmobkoiplaaGreat

/-
  AcceptorFault, the document's.
-/
set_option linter.unusedSimpArgs false
set_option linter.unusedVariables false
namespace Go.Proofs.YtolihmobkoiplaaGreat
open Go.RowKit
set_option linter.unusedSectionVars false
variable [DecidableEq Vot] [Inhabited Vot] [DecidableEq Slt] [Inhabited Slt] [DecidableEq SltR] [Inhabited SltR] [DecidableEq Bal] [Inhabited Bal] [DecidableEq Ledg] [Inhabited Ledg] [DecidableEq Leg] [Inhabited Leg] [DecidableEq Acc] [Inhabited Acc] [DecidableEq AccR] [Inhabited AccR] [DecidableEq AccsR] [Inhabited AccsR] [DecidableEq SltsR] [Inhabited SltsR]
attribute [local go_sem ↓] Go.wp_at_zero Go.wp_at_succ

set_option maxRecDepth 20000 in
set_option maxHeartbeats 8000000 in
theorem specAccF_any (x : Value) (d : Acc) (w : World) (hx : accR.V w x d) :
    Calls Tryz.prog 29 #[x] w fun e w' => e = .returned (.int .i64 (accF d.slots)) ∧ Below w.heap.size w w' := by
  obtain ⟨u1, rfl, hx⟩ := hx
  obtain ⟨ax, cx, rfl, hcx, hmx, hx⟩ := hx
  unfold maxLen at hmx
  obtain ⟨xs⟩ := d
  dsimp only at hx hcx ⊢
  obtain ⟨n, hn'⟩ : ∃ n, n = xs.length := ⟨_, rfl⟩
  have HN : Hid (xs.length = n) := hn'.symm
  rw [← hn'] at hcx hx ⊢
  clear hn'
  by_cases h6 : 60 < n
  · have HC : Hid (accF xs = 2) := accF_many (by rw [HN.out]; exact h6)
    have h6' : (60 : Int) < n := by omega
    clear hx
    go_enter Tryz.func29, Tryz.ntmps29
    go_wp2
    go_ret
    exact ⟨by rw [HC.out]; rfl, by (repeat (first | exact Below.refl _ _ | assumption | refine Below.drew ?_ | refine balloc ?_ _ | refine bset ?_ (by simp; omega) _ | refine bset ?_ (by simp) _ | refine bstep ?_ (by assumption)))⟩
  have h6' : ¬ (60 : Int) < n := by omega
  have HH : Hid (∀ k c, k < n → scanI (accAt xs) k = 0 → accAt xs k = c → ¬ c = 0 → accF xs = c) := fun k c hk hs hc h0 => accF_hit (by rw [HN.out]; exact h6) (by rw [HN.out]; exact hk) hs hc h0
  have HE : Hid (scanI (accAt xs) n = 0 → accF xs = 0) := fun hs => accF_end (by rw [HN.out]; exact h6) (by rw [HN.out]; exact hs)
  clear h6
  go_enter Tryz.func29, Tryz.ntmps29
  go_wp2
  go_loopw [3] (fun i w' => ∃ k : Nat, k ≤ n ∧ i = .int .i64 k ∧ scanI (accAt xs) k = 0 ∧ w'.cell? ⟨w.heap.size, 0, none⟩ = some (.slice ax n cx) ∧ Below w.heap.size w w') (fun i _ => n - (intOf i).toNat)
  case atStart => exact ⟨0, Nat.zero_le _, rfl, rfl, by simp [go_sem], by (repeat (first | exact Below.refl _ _ | assumption | refine Below.drew ?_ | refine balloc ?_ _ | refine bset ?_ (by simp; omega) _ | refine bset ?_ (by simp) _ | refine bstep ?_ (by assumption)))⟩
  case round =>
    obtain ⟨k, hk, rfl, hs, hq, hbl⟩ := hrel
    have HS : Hid (scanI (accAt xs) k = 0) := hs
    clear hs
    by_cases hlt : k < n
    · obtain ⟨bxa, oxa, ua, rfl, _, pa, hva⟩ := hx k (by omega)
      obtain ⟨l, hla⟩ : ∃ l, l = xs.getD k default := ⟨_, rfl⟩
      rw [← hla] at hva
      have HLa : Hid (l = xs.getD k default) := hla
      clear hla
      have hVa := hva
      obtain ⟨sa, rfl, hca⟩ := hva
      obtain ⟨aua, cua, rfl⟩ := vots_form hca
      clear hca
      have ga0 : w.cell? ⟨bxa, oxa + k * 6, none⟩ = some (.int .i64 l.con) := pa 0 (by omega)
      have ga1 : w.cell? ⟨bxa, oxa + k * 6 + 1, none⟩ = some (.int .i64 l.sh) := pa 1 (by omega)
      have ga2 : w.cell? ⟨bxa, oxa + k * 6 + 2, none⟩ = some (.int .i64 l.pr) := pa 2 (by omega)
      have ga3 : w.cell? ⟨bxa, oxa + k * 6 + 3, none⟩ = some (.int .i64 l.lb) := pa 3 (by omega)
      have ga4 : w.cell? ⟨bxa, oxa + k * 6 + 4, none⟩ = some (.int .i64 l.lv) := pa 4 (by omega)
      have ga5 : w.cell? ⟨bxa, oxa + k * 6 + 5, none⟩ = some (.slice aua l.cast.length cua) := pa 5 (by omega)
      clear pa
      have HF : Hid (∀ W, Below w.heap.size w W → Calls Tryz.prog 48 #[.agg #[.int .i64 l.con, .int .i64 l.sh, .int .i64 l.pr, .int .i64 l.lb, .int .i64 l.lv, .slice aua l.cast.length cua]] W fun e w' => e = .returned (.int .i64 (sltFault l)) ∧ Below W.heap.size W w') := fun W h => specSlotF_any _ l W (sltR.below hVa h)
      clear hVa
      have hX : Hid (∀ i, i < n → ∃ b o u, some (⟨bxa, oxa, none⟩ : Addr) = some ⟨b, o, none⟩ ∧ (lvSlt u).length = 6 ∧ (∀ j, j < 6 → w.cell? ⟨b, o + i * 6 + j, none⟩ = (lvSlt u)[j]?) ∧ sltR.V w u (xs.getD i default)) := hx
      clear hx
      replace ga0 := cell_keep hbl ga0
      replace ga1 := cell_keep hbl ga1
      replace ga2 := cell_keep hbl ga2
      replace ga3 := cell_keep hbl ga3
      replace ga4 := cell_keep hbl ga4
      replace ga5 := cell_keep hbl ga5
      have zb : bxa < wr.heap.size := World.block_lt_of_cell? wr _ ga0
      have zq : w.heap.size < wr.heap.size := World.block_lt_of_cell? wr _ hq
      go_wp2_with fail
      refine (HF.out _ (by (repeat (first | exact Below.refl _ _ | assumption | refine Below.drew ?_ | refine balloc ?_ _ | refine bset ?_ (by simp; omega) _ | refine bset ?_ (by simp) _ | refine bstep ?_ (by assumption))))).mono ?_
      rintro e w1 ⟨rfl, hb1⟩
      have hB1 : Below w.heap.size w w1 := bstep (by (repeat (first | exact Below.refl _ _ | assumption | refine Below.drew ?_ | refine balloc ?_ _ | refine bset ?_ (by simp; omega) _ | refine bset ?_ (by simp) _ | refine bstep ?_ (by assumption)))) hb1
      have hq1 : w1.cell? ⟨w.heap.size, 0, none⟩ = some (.slice (some ⟨bxa, oxa, none⟩) n cx) := cell_keep hb1 (by simp [go_sem, hq, zq])
      replace ga0 := cell_keep hb1 (cell_keep (by (repeat (first | exact Below.refl _ _ | assumption | refine Below.drew ?_ | refine balloc ?_ _ | refine bset ?_ (by simp; omega) _ | refine bset ?_ (by simp) _ | refine bstep ?_ (by assumption)))) ga0)
      replace ga1 := cell_keep hb1 (cell_keep (by (repeat (first | exact Below.refl _ _ | assumption | refine Below.drew ?_ | refine balloc ?_ _ | refine bset ?_ (by simp; omega) _ | refine bset ?_ (by simp) _ | refine bstep ?_ (by assumption)))) ga1)
      replace ga2 := cell_keep hb1 (cell_keep (by (repeat (first | exact Below.refl _ _ | assumption | refine Below.drew ?_ | refine balloc ?_ _ | refine bset ?_ (by simp; omega) _ | refine bset ?_ (by simp) _ | refine bstep ?_ (by assumption)))) ga2)
      replace ga3 := cell_keep hb1 (cell_keep (by (repeat (first | exact Below.refl _ _ | assumption | refine Below.drew ?_ | refine balloc ?_ _ | refine bset ?_ (by simp; omega) _ | refine bset ?_ (by simp) _ | refine bstep ?_ (by assumption)))) ga3)
      replace ga4 := cell_keep hb1 (cell_keep (by (repeat (first | exact Below.refl _ _ | assumption | refine Below.drew ?_ | refine balloc ?_ _ | refine bset ?_ (by simp; omega) _ | refine bset ?_ (by simp) _ | refine bstep ?_ (by assumption)))) ga4)
      replace ga5 := cell_keep hb1 (cell_keep (by (repeat (first | exact Below.refl _ _ | assumption | refine Below.drew ?_ | refine balloc ?_ _ | refine bset ?_ (by simp; omega) _ | refine bset ?_ (by simp) _ | refine bstep ?_ (by assumption)))) ga5)
      clear hb1 hq
      have HX : Hid (accAt xs k = if sltFault l = 0 then (if k = 0 then 0 else if aheadS (xs.getD (k - 1) default) l = true then 0 else 1) else sltFault l) := by show _ = _; unfold accAt; rw [← HLa.out]
      by_cases hf : sltFault l = 0
      · rw [hf]
        have HX2 : Hid (accAt xs k = if k = 0 then 0 else if aheadS (xs.getD (k - 1) default) l = true then 0 else 1) := by show _ = _; rw [HX.out, if_pos hf]
        clear hf HX
        cases k with
        | zero =>
          have H0 : Hid (accAt xs 0 = 0) := by show _ = _; rw [HX2.out, if_pos rfl]
          clear HX2
          clear ga0 ga1 ga2 ga3 ga4 ga5 hX
          go_wp2
          go_quiet (fail)
          go_wp2
          exact ⟨⟨1, by omega, by go_num, scanI_succ HS.out H0.out, cell_keep (bdrewN (Below.refl _ _) _) hq1, bdrewN hB1 _⟩, by simp [intOf]; omega⟩
        | succ p =>
          have hx := hX.out
          clear hX
          have hxz := hx p (by omega)
          obtain ⟨bxz, oxz, uz, hez, _, pz, hvz⟩ := hxz
          simp only [Option.some.injEq, Addr.mk.injEq, and_true] at hez
          obtain ⟨rfl, rfl⟩ := hez
          obtain ⟨z, hlz⟩ : ∃ l, l = xs.getD p default := ⟨_, rfl⟩
          rw [← hlz] at hvz
          have HLz : Hid (z = xs.getD p default) := hlz
          clear hlz
          have hVz := hvz
          obtain ⟨sz, rfl, hcz⟩ := hvz
          obtain ⟨auz, cuz, rfl⟩ := vots_form hcz
          clear hcz
          have gz0 : w.cell? ⟨bxa, oxa + p * 6, none⟩ = some (.int .i64 z.con) := pz 0 (by omega)
          have gz1 : w.cell? ⟨bxa, oxa + p * 6 + 1, none⟩ = some (.int .i64 z.sh) := pz 1 (by omega)
          have gz2 : w.cell? ⟨bxa, oxa + p * 6 + 2, none⟩ = some (.int .i64 z.pr) := pz 2 (by omega)
          have gz3 : w.cell? ⟨bxa, oxa + p * 6 + 3, none⟩ = some (.int .i64 z.lb) := pz 3 (by omega)
          have gz4 : w.cell? ⟨bxa, oxa + p * 6 + 4, none⟩ = some (.int .i64 z.lv) := pz 4 (by omega)
          have gz5 : w.cell? ⟨bxa, oxa + p * 6 + 5, none⟩ = some (.slice auz z.cast.length cuz) := pz 5 (by omega)
          clear pz
          clear hx hVz
          replace gz0 := cell_keep hB1 gz0
          replace gz1 := cell_keep hB1 gz1
          replace gz2 := cell_keep hB1 gz2
          replace gz3 := cell_keep hB1 gz3
          replace gz4 := cell_keep hB1 gz4
          replace gz5 := cell_keep hB1 gz5
          have i1 : (p : Int) < (n : Int) := by omega
          have i2 : ((p + 1 : Nat) : Int) < (n : Int) := by omega
          have i3 : (0 : Int) < ((p + 1 : Nat) : Int) := by omega
          have i4 : decide (0 < p + 1) = true := decide_eq_true (by omega)
          have i5 : IntKind.i64.wrap (((p + 1 : Nat) : Int) - 1) = (p : Int) := by rw [IntKind.wrap_i64]; omega
          have i6 : (0 : Int) ≤ ((p + 1 : Nat) : Int) := by omega
          have i7 : (0 : Int) ≤ (p : Int) := by omega
          have i8 : (p : Int) + 1 < (n : Int) := by omega
          have i9 : (0 : Int) ≤ (p : Int) + 1 := by omega
          have i10 : ((p : Int) + 1).toNat = p + 1 := by omega
          have w1' : IntKind.i64.wrap (p : Int) = p := wrapId (by omega) (by omega)
          have HX3 : Hid (accAt xs (p + 1) = if aheadS z l = true then 0 else 1) := by show _ = _; rw [HX2.out, if_neg (by omega), Nat.add_sub_cancel, ← HLz.out]
          clear HX2
          obtain ⟨u, hu⟩ : ∃ u : Value, u = .slice aua l.cast.length cua := ⟨_, rfl⟩
          obtain ⟨u', hu'⟩ : ∃ u : Value, u = .slice auz z.cast.length cuz := ⟨_, rfl⟩
          have rA : w1.cell? ⟨bxa, oxa + (p + 1) * 6, none⟩ = some (.int .i64 l.con) ∧ w1.cell? ⟨bxa, oxa + (p + 1) * 6 + 1, none⟩ = some (.int .i64 l.sh) ∧ w1.cell? ⟨bxa, oxa + (p + 1) * 6 + 2, none⟩ = some (.int .i64 l.pr) ∧ w1.cell? ⟨bxa, oxa + (p + 1) * 6 + 3, none⟩ = some (.int .i64 l.lb) ∧ w1.cell? ⟨bxa, oxa + (p + 1) * 6 + 4, none⟩ = some (.int .i64 l.lv) ∧ w1.cell? ⟨bxa, oxa + (p + 1) * 6 + 5, none⟩ = some (.slice aua l.cast.length cua) := ⟨ga0, ga1, ga2, ga3, ga4, ga5⟩
          have rZ : w1.cell? ⟨bxa, oxa + p * 6, none⟩ = some (.int .i64 z.con) ∧ w1.cell? ⟨bxa, oxa + p * 6 + 1, none⟩ = some (.int .i64 z.sh) ∧ w1.cell? ⟨bxa, oxa + p * 6 + 2, none⟩ = some (.int .i64 z.pr) ∧ w1.cell? ⟨bxa, oxa + p * 6 + 3, none⟩ = some (.int .i64 z.lb) ∧ w1.cell? ⟨bxa, oxa + p * 6 + 4, none⟩ = some (.int .i64 z.lv) ∧ w1.cell? ⟨bxa, oxa + p * 6 + 5, none⟩ = some (.slice auz z.cast.length cuz) := ⟨gz0, gz1, gz2, gz3, gz4, gz5⟩
          clear ga0 gz0 ga1 gz1 ga2 gz2 ga3 gz3 ga4 gz4 ga5 gz5 hu hu'
          cases hah : aheadS z l
          · have hah' : aheadS z l = false := hah
            have HAH : Hid (aheadS z l = false) := hah'
            clear hah'
            go_wp2
            go_region_held3 (fun W => Below w1.heap.size w1 W ∧ (W.cell? ⟨bxa, oxa + (p + 1) * 6, none⟩ = some (.int .i64 l.con) ∧ W.cell? ⟨bxa, oxa + (p + 1) * 6 + 1, none⟩ = some (.int .i64 l.sh) ∧ W.cell? ⟨bxa, oxa + (p + 1) * 6 + 2, none⟩ = some (.int .i64 l.pr) ∧ W.cell? ⟨bxa, oxa + (p + 1) * 6 + 3, none⟩ = some (.int .i64 l.lb) ∧ W.cell? ⟨bxa, oxa + (p + 1) * 6 + 4, none⟩ = some (.int .i64 l.lv) ∧ W.cell? ⟨bxa, oxa + (p + 1) * 6 + 5, none⟩ = some (.slice aua l.cast.length cua)) ∧ (W.cell? ⟨bxa, oxa + p * 6, none⟩ = some (.int .i64 z.con) ∧ W.cell? ⟨bxa, oxa + p * 6 + 1, none⟩ = some (.int .i64 z.sh) ∧ W.cell? ⟨bxa, oxa + p * 6 + 2, none⟩ = some (.int .i64 z.pr) ∧ W.cell? ⟨bxa, oxa + p * 6 + 3, none⟩ = some (.int .i64 z.lb) ∧ W.cell? ⟨bxa, oxa + p * 6 + 4, none⟩ = some (.int .i64 z.lv) ∧ W.cell? ⟨bxa, oxa + p * 6 + 5, none⟩ = some (.slice auz z.cast.length cuz)) ∧ W.cell? ⟨w.heap.size, 0, none⟩ = some (.slice (some ⟨bxa, oxa, none⟩) n cx)) ((refine sltKeep3 ?_ rA rZ hq1; repeat (first | exact Below.refl _ _ | assumption | refine Below.drew ?_ | refine balloc ?_ _ | refine bstep ?_ (by assumption)))) (first | (go_at_call 49; refine (l9Ahead_any z l _ _ _).mono ?_; rintro e wa ⟨rfl, hb2⟩; rw [hah]))
            rename_i hH
            have hB2 := bstep hB1 hH.1
            have hq2 := hH.2.2.2
            clear hH
            have HC : Hid (accF xs = 1) := HH.out (p + 1) 1 hlt HS.out (by rw [HX3.out, HAH.out]; rfl) (by omega)
            go_wp2
            go_ret
            exact ⟨by rw [HC.out]; rfl, hB2⟩
          · have hah' : aheadS z l = true := hah
            have HAH : Hid (aheadS z l = true) := hah'
            clear hah'
            go_wp2
            go_region_held3 (fun W => Below w1.heap.size w1 W ∧ (W.cell? ⟨bxa, oxa + (p + 1) * 6, none⟩ = some (.int .i64 l.con) ∧ W.cell? ⟨bxa, oxa + (p + 1) * 6 + 1, none⟩ = some (.int .i64 l.sh) ∧ W.cell? ⟨bxa, oxa + (p + 1) * 6 + 2, none⟩ = some (.int .i64 l.pr) ∧ W.cell? ⟨bxa, oxa + (p + 1) * 6 + 3, none⟩ = some (.int .i64 l.lb) ∧ W.cell? ⟨bxa, oxa + (p + 1) * 6 + 4, none⟩ = some (.int .i64 l.lv) ∧ W.cell? ⟨bxa, oxa + (p + 1) * 6 + 5, none⟩ = some (.slice aua l.cast.length cua)) ∧ (W.cell? ⟨bxa, oxa + p * 6, none⟩ = some (.int .i64 z.con) ∧ W.cell? ⟨bxa, oxa + p * 6 + 1, none⟩ = some (.int .i64 z.sh) ∧ W.cell? ⟨bxa, oxa + p * 6 + 2, none⟩ = some (.int .i64 z.pr) ∧ W.cell? ⟨bxa, oxa + p * 6 + 3, none⟩ = some (.int .i64 z.lb) ∧ W.cell? ⟨bxa, oxa + p * 6 + 4, none⟩ = some (.int .i64 z.lv) ∧ W.cell? ⟨bxa, oxa + p * 6 + 5, none⟩ = some (.slice auz z.cast.length cuz)) ∧ W.cell? ⟨w.heap.size, 0, none⟩ = some (.slice (some ⟨bxa, oxa, none⟩) n cx)) ((refine sltKeep3 ?_ rA rZ hq1; repeat (first | exact Below.refl _ _ | assumption | refine Below.drew ?_ | refine balloc ?_ _ | refine bstep ?_ (by assumption)))) (first | (go_at_call 49; refine (l9Ahead_any z l _ _ _).mono ?_; rintro e wa ⟨rfl, hb2⟩; rw [hah]))
            rename_i hH
            have hB2 := bstep hB1 hH.1
            have hq2 := hH.2.2.2
            clear hH
            have H0 : Hid (accAt xs (p + 1) = 0) := by show _ = _; rw [HX3.out, HAH.out]; rfl
            go_wp2
            exact ⟨⟨p + 1 + 1, by omega, by go_num, scanI_succ HS.out H0.out, hq2, hB2⟩, by simp [intOf]; omega⟩
      · have HC : Hid (accF xs = sltFault l) := HH.out k _ hlt HS.out (by rw [HX.out, if_neg hf]) hf
        clear HX hX
        generalize sltFault l = c at *
        go_wp2
        go_ret
        exact ⟨by rw [HC.out]; rfl, hB1⟩
    · have hkn : k = n := by omega
      subst hkn
      have HC : Hid (accF xs = 0) := HE.out HS.out
      go_wp2
      go_ret
      exact ⟨by rw [HC.out]; rfl, by (repeat (first | exact Below.refl _ _ | assumption | refine Below.drew ?_ | refine balloc ?_ _ | refine bset ?_ (by simp; omega) _ | refine bset ?_ (by simp) _ | refine bstep ?_ (by assumption)))⟩
end Go.Proofs.YtolihmobkoiplaaGreat

/-
  SlotFault, the program's.
-/
set_option linter.unusedSimpArgs false
namespace Go.Proofs.YtolihmobkoiplaaGreat
open Go.RowKit
set_option linter.unusedSectionVars false
variable [DecidableEq Vot] [Inhabited Vot] [DecidableEq Slt] [Inhabited Slt] [DecidableEq Bal] [Inhabited Bal] [DecidableEq Ledg] [Inhabited Ledg] [DecidableEq Leg] [Inhabited Leg]
attribute [local go_sem ↓] Go.wp_at_zero Go.wp_at_succ

theorem other_or (v p : Vot) : other v p = (decide (v.bal < p.bal) || otherB v p) := rfl
set_option maxHeartbeats 4000000 in
theorem implSlotF_any (x : Value) (d : Slt) (w : World) (hx : sltR.V w x d) :
    Calls Tryz.prog 55 #[x] w fun e w' => e = .returned (.int .i64 (sltFault d)) ∧ Below w.heap.size w w' := by
  obtain ⟨u1, rfl, hx⟩ := hx
  obtain ⟨ax, cx, rfl, hcx, hmx, hx⟩ := hx
  unfold maxLen at hmx
  cases h1 : inB d.con 1 1000000000
  · rw [sltF_range (by simp [sltRange, h1])]
    go_enter Tryz.func55, Tryz.ntmps55
    go_wp2_with (first | (go_at_call 42; refine (isId_any _ _).mono ?_; rintro e w' ⟨rfl, rfl⟩) | (go_at_call 43; refine (isShard_any _ _).mono ?_; rintro e w' ⟨rfl, rfl⟩) | (go_at_call 64; refine (within_any _ _ _ _).mono ?_; rintro e w' ⟨rfl, rfl⟩))
    go_ret
    exact ⟨rfl, by (repeat (first | exact Below.refl _ _ | assumption | refine Below.drew ?_ | refine balloc ?_ _ | refine bset ?_ (by simp; omega) _ | refine bset ?_ (by simp) _ | refine bstep ?_ (by assumption)))⟩
  cases h2 : inB d.sh 0 2
  · rw [sltF_range (by simp [sltRange, h2])]
    go_enter Tryz.func55, Tryz.ntmps55
    go_wp2_with (first | (go_at_call 42; refine (isId_any _ _).mono ?_; rintro e w' ⟨rfl, rfl⟩) | (go_at_call 43; refine (isShard_any _ _).mono ?_; rintro e w' ⟨rfl, rfl⟩) | (go_at_call 64; refine (within_any _ _ _ _).mono ?_; rintro e w' ⟨rfl, rfl⟩))
    go_ret
    exact ⟨rfl, by (repeat (first | exact Below.refl _ _ | assumption | refine Below.drew ?_ | refine balloc ?_ _ | refine bset ?_ (by simp; omega) _ | refine bset ?_ (by simp) _ | refine bstep ?_ (by assumption)))⟩
  cases h3 : inB d.pr (-1) 1000
  · rw [sltF_range (by simp [sltRange, h3])]
    go_enter Tryz.func55, Tryz.ntmps55
    go_wp2_with (first | (go_at_call 42; refine (isId_any _ _).mono ?_; rintro e w' ⟨rfl, rfl⟩) | (go_at_call 43; refine (isShard_any _ _).mono ?_; rintro e w' ⟨rfl, rfl⟩) | (go_at_call 64; refine (within_any _ _ _ _).mono ?_; rintro e w' ⟨rfl, rfl⟩))
    go_ret
    exact ⟨rfl, by (repeat (first | exact Below.refl _ _ | assumption | refine Below.drew ?_ | refine balloc ?_ _ | refine bset ?_ (by simp; omega) _ | refine bset ?_ (by simp) _ | refine bstep ?_ (by assumption)))⟩
  have hR : Hid (sltRange d = true) := by show _ = _; simp [sltRange, h1, h2, h3]
  by_cases h6 : 60 < d.cast.length
  · rw [sltF_many hR.out h6]
    go_enter Tryz.func55, Tryz.ntmps55
    go_wp2_with (first | (go_at_call 42; refine (isId_any _ _).mono ?_; rintro e w' ⟨rfl, rfl⟩) | (go_at_call 43; refine (isShard_any _ _).mono ?_; rintro e w' ⟨rfl, rfl⟩) | (go_at_call 64; refine (within_any _ _ _ _).mono ?_; rintro e w' ⟨rfl, rfl⟩))
    go_ret
    exact ⟨rfl, by (repeat (first | exact Below.refl _ _ | assumption | refine Below.drew ?_ | refine balloc ?_ _ | refine bset ?_ (by simp; omega) _ | refine bset ?_ (by simp) _ | refine bstep ?_ (by assumption)))⟩
  obtain ⟨xs, hxs⟩ : ∃ xs, xs = d.cast := ⟨_, rfl⟩
  have HXS : Hid (d.cast = xs) := hxs.symm
  rw [← hxs] at h6 hcx hx ⊢
  clear hxs
  obtain ⟨n, hn'⟩ : ∃ n, n = xs.length := ⟨_, rfl⟩
  have HN : Hid (xs.length = n) := hn'.symm
  rw [← hn'] at h6 hcx hx ⊢
  clear hn'
  go_enter Tryz.func55, Tryz.ntmps55
  go_wp2_with (first | (go_at_call 42; refine (isId_any _ _).mono ?_; rintro e w' ⟨rfl, rfl⟩) | (go_at_call 43; refine (isShard_any _ _).mono ?_; rintro e w' ⟨rfl, rfl⟩) | (go_at_call 64; refine (within_any _ _ _ _).mono ?_; rintro e w' ⟨rfl, rfl⟩) | fail)
  refine (noVote_any _).mono ?_
  rintro e w1 ⟨rfl, hb1⟩
  have hB1 : Below w.heap.size w w1 := bstep (by (repeat (first | exact Below.refl _ _ | assumption | refine Below.drew ?_ | refine balloc ?_ _ | refine bset ?_ (by simp; omega) _ | refine bset ?_ (by simp) _ | refine bstep ?_ (by assumption)))) hb1
  have k2 : w1.cell? ⟨w.heap.size, 2, none⟩ = some (.int .i64 d.pr) := cell_keep hb1 (by simp [go_sem])
  have k3 : w1.cell? ⟨w.heap.size, 3, none⟩ = some (.int .i64 d.lb) := cell_keep hb1 (by simp [go_sem])
  have k4 : w1.cell? ⟨w.heap.size, 4, none⟩ = some (.int .i64 d.lv) := cell_keep hb1 (by simp [go_sem])
  have k5 : w1.cell? ⟨w.heap.size, 5, none⟩ = some (.slice ax n cx) := cell_keep hb1 (by simp [go_sem])
  clear hb1
  have z1 : w.heap.size < w1.heap.size := World.block_lt_of_cell? w1 _ k2
  go_wp2
  go_loopw [30] (fun i w' => ∃ k : Nat, k ≤ n ∧ i = .int .i64 k ∧ scanI (votAt xs) k = 0 ∧ (w'.cell? ⟨w.heap.size, 2, none⟩ = some (.int .i64 d.pr) ∧ w'.cell? ⟨w.heap.size, 3, none⟩ = some (.int .i64 d.lb) ∧ w'.cell? ⟨w.heap.size, 4, none⟩ = some (.int .i64 d.lv)) ∧ w'.cell? ⟨w1.heap.size, 0, none⟩ = some (.int .i64 (lastV xs k).bal) ∧ w'.cell? ⟨w1.heap.size, 1, none⟩ = some (.int .i64 (lastV xs k).val) ∧ (∀ o, w'.frozen? ⟨w1.heap.size, o, none⟩ = false) ∧ Below w.heap.size w w') (fun i _ => n - (intOf i).toNat)
  case atStart => exact ⟨0, Nat.zero_le _, rfl, rfl, ⟨cell_keep (balloc (Below.refl _ _) _) k2, cell_keep (balloc (Below.refl _ _) _) k3, cell_keep (balloc (Below.refl _ _) _) k4⟩, by simp [go_sem, lastV_zero, noV], by simp [go_sem, lastV_zero, noV], by simp [go_sem], by (repeat (first | exact Below.refl _ _ | assumption | refine Below.drew ?_ | refine balloc ?_ _ | refine bset ?_ (by simp; omega) _ | refine bset ?_ (by simp) _ | refine bstep ?_ (by assumption)))⟩
  case round =>
    clear k2 k3 k4 k5 hB1
    obtain ⟨k, hk, rfl, hs, ⟨c2, c3, c4⟩, e0, e1, ef, hbl⟩ := hrel
    have HS : Hid (scanI (votAt xs) k = 0) := hs
    clear hs
    have z0 : w.heap.size < wr.heap.size := World.block_lt_of_cell? wr _ c2
    have z2 : w1.heap.size < wr.heap.size := World.block_lt_of_cell? wr _ e0
    obtain ⟨q, hq⟩ : ∃ q, q = lastV xs k := ⟨_, rfl⟩
    have HQ : Hid (lastV xs k = q) := hq.symm
    rw [← hq] at e0 e1
    clear hq
    by_cases hlt : k < n
    · obtain ⟨bx, ox, rfl, g1⟩ := hx k hlt
      obtain ⟨l, hl⟩ : ∃ l, l = xs.getD k default := ⟨_, rfl⟩
      rw [← hl] at g1
      have HL : Hid (l = xs.getD k default) := hl
      clear hl hx
      obtain ⟨a1, a2⟩ := votCells_below hbl g1
      clear g1
      cases v1 : votB l
      · go_wp2_with (go_at_call 75; refine (isVote_any l _).mono ?_; rintro e w' ⟨rfl, hb⟩)
        go_ret
        refine ⟨?_, by (repeat (first | exact Below.refl _ _ | assumption | refine Below.drew ?_ | refine balloc ?_ _ | refine bset ?_ (by simp; omega) _ | refine bset ?_ (by simp) _ | refine bstep ?_ (by assumption)))⟩
        rw [sltF_hit (k := k) (c := 3) hR.out (by rw [HXS.out, HN.out]; omega) (by rw [HXS.out, HN.out]; exact hlt) (by rw [HXS.out]; exact HS.out) (by rw [HXS.out]; exact votAt_bad (by rw [← HL.out]; exact v1)) (by omega)]
        rfl
      have hok : Hid (votB (xs.getD k default) = true) := by show _ = _; rw [← HL.out]; exact v1
      go_wp2_with fail
      refine (isVote_any l _).mono ?_
      rintro e w2 ⟨rfl, hb2⟩
      have hB2 : Below w.heap.size w w2 := bstep (balloc hbl _) hb2
      have b0 : w2.cell? ⟨wr.heap.size, 0, none⟩ = some (.int .i64 l.bal) := cell_keep hb2 (by simp [go_sem])
      have b1 : w2.cell? ⟨wr.heap.size, 1, none⟩ = some (.int .i64 l.val) := cell_keep hb2 (by simp [go_sem])
      replace c2 := cell_keep hb2 (cell_keep (by (repeat (first | exact Below.refl _ _ | assumption | refine Below.drew ?_ | refine balloc ?_ _ | refine bset ?_ (by simp; omega) _ | refine bset ?_ (by simp) _ | refine bstep ?_ (by assumption)))) c2)
      replace c3 := cell_keep hb2 (cell_keep (by (repeat (first | exact Below.refl _ _ | assumption | refine Below.drew ?_ | refine balloc ?_ _ | refine bset ?_ (by simp; omega) _ | refine bset ?_ (by simp) _ | refine bstep ?_ (by assumption)))) c3)
      replace c4 := cell_keep hb2 (cell_keep (by (repeat (first | exact Below.refl _ _ | assumption | refine Below.drew ?_ | refine balloc ?_ _ | refine bset ?_ (by simp; omega) _ | refine bset ?_ (by simp) _ | refine bstep ?_ (by assumption)))) c4)
      replace e0 := cell_keep hb2 (cell_keep (by (repeat (first | exact Below.refl _ _ | assumption | refine Below.drew ?_ | refine balloc ?_ _ | refine bset ?_ (by simp; omega) _ | refine bset ?_ (by simp) _ | refine bstep ?_ (by assumption)))) e0)
      replace e1 := cell_keep hb2 (cell_keep (by (repeat (first | exact Below.refl _ _ | assumption | refine Below.drew ?_ | refine balloc ?_ _ | refine bset ?_ (by simp; omega) _ | refine bset ?_ (by simp) _ | refine bstep ?_ (by assumption)))) e1)
      replace ef : ∀ o, w2.frozen? ⟨w1.heap.size, o, none⟩ = false := fun o => by rw [(bcell hb2).2 _ _ (by simp; omega)]; simp [go_sem, ef, z2]
      clear hb2 hbl a1 a2
      rw [v1]
      by_cases q1 : l.bal < q.bal
      · go_wp2
        go_ret
        refine ⟨?_, hB2⟩
        rw [sltF_hit (k := k) (c := 1) hR.out (by rw [HXS.out, HN.out]; omega) (by rw [HXS.out, HN.out]; exact hlt) (by rw [HXS.out]; exact HS.out) (by rw [HXS.out]; exact votAt_other hok.out (by rw [← HL.out, HQ.out, other_or]; simp [q1])) (by omega)]
        rfl
      · go_wp2_with fail
        refine (isOtherwise_any l q _).mono ?_
        rintro e w3 ⟨rfl, hb3⟩
        have hB3 : Below w.heap.size w w3 := bstep hB2 hb3
        have z3 : w1.heap.size < w2.heap.size := World.block_lt_of_cell? w2 _ e0
        replace b0 := cell_keep hb3 b0
        replace b1 := cell_keep hb3 b1
        replace c2 := cell_keep hb3 c2
        replace c3 := cell_keep hb3 c3
        replace c4 := cell_keep hb3 c4
        replace e0 := cell_keep hb3 e0
        replace e1 := cell_keep hb3 e1
        replace ef : ∀ o, w3.frozen? ⟨w1.heap.size, o, none⟩ = false := fun o => by rw [(bcell hb3).2 _ _ z3]; exact ef o
        clear hb3 hB2
        cases q2 : otherB l q
        · go_wp2
          refine ⟨⟨k + 1, by omega, by go_num, scanI_succ HS.out (votAt_ok hok.out (by rw [← HL.out, HQ.out, other_or, q2]; simp [q1])), ⟨by simp [go_sem, c2], by simp [go_sem, c3], by simp [go_sem, c4]⟩, ?_, ?_, by simp [go_sem, ef], by (repeat (first | refine bset ?_ (by simp; omega) _ | refine bset ?_ (by simp) _ | refine balloc ?_ _ | assumption))⟩, by simp [intOf]; omega⟩
          · rw [lastV_succ, ← HL.out]
            simp [go_sem, e0]
          · rw [lastV_succ, ← HL.out]
            simp [go_sem, e1]
        · go_wp2
          go_ret
          refine ⟨?_, hB3⟩
          rw [sltF_hit (k := k) (c := 1) hR.out (by rw [HXS.out, HN.out]; omega) (by rw [HXS.out, HN.out]; exact hlt) (by rw [HXS.out]; exact HS.out) (by rw [HXS.out]; exact votAt_other hok.out (by rw [← HL.out, HQ.out, other_or, q2]; simp)) (by omega)]
          rfl
    · have hkn : k = n := by omega
      subst hkn
      have HE : Hid (sltFault d = if (d.lb = q.bal ∧ d.lv = q.val) ∧ d.lb ≤ d.pr then 0 else 1) := by
        show _ = _
        rw [sltF_end hR.out (by rw [HXS.out, HN.out]; omega) (by rw [HXS.out, HN.out]; exact HS.out), HXS.out, HN.out, HQ.out]
      clear hx hlt
      cases he : (decide (d.lb = q.bal) && decide (d.lv = q.val))
      · have heq : ∀ w, (binOp .neq 63 (.agg #[.int .i64 d.lb, .int .i64 d.lv]) (.agg #[.int .i64 q.bal, .int .i64 q.val])).run Tryz.prog w = .ok (.bool true) w := fun w => by rw [neqVot, he]; rfl
        go_wp2
        go_ret
        refine ⟨?_, hbl⟩
        rw [HE.out, if_neg (by simp at he; rintro ⟨⟨e1, e2⟩, _⟩; exact he e1 e2)]
        rfl
      · have heq : ∀ w, (binOp .neq 63 (.agg #[.int .i64 d.lb, .int .i64 d.lv]) (.agg #[.int .i64 q.bal, .int .i64 q.val])).run Tryz.prog w = .ok (.bool false) w := fun w => by rw [neqVot, he]; rfl
        simp at he
        have HB : Hid (d.lb = q.bal ∧ d.lv = q.val) := he
        clear he
        go_wp2
        · rename_i hle
          go_ret
          refine ⟨?_, hbl⟩
          rw [HE.out, if_neg (by rintro ⟨_, h⟩; have := HB.out.1; omega)]
          rfl
        · rename_i hle
          go_ret
          refine ⟨?_, hbl⟩
          rw [HE.out, if_pos ⟨HB.out, by have := HB.out.1; omega⟩]
          rfl
end Go.Proofs.YtolihmobkoiplaaGreat

