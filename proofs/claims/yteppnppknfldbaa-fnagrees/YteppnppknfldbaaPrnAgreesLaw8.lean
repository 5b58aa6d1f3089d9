import Derived.Test.YteppnppknfldbaaPrnAgreesLaw7
import Derived.Test.YteppnppknfldbaaPrnAgreesLaw4
import Derived.Test.YteppnppknfldbaaPrnAgreesLaw1
import Derived.Deep.RegionHeld3
import Derived.Deep.DrawnRows
import Derived.BigQuiet
import Derived.Deep.QuietTactic
import Derived.Test.YteppnppknfldbaaPrnAgreesLaw3
import Derived.Shelf.Abstract
import Derived.Laws.CopyRow
import Derived.Laws.Externs
import Derived.Lib.Overlaps
import Derived.Lib.AppendZerosOnto
import Derived.Deep.RegionLaw

/-
  A region that draws its order, none of whose operations breaks what is asked of the world.
-/
namespace Go.Proofs.Yteppnppknfldbaa
open Go.RowKit

section
variable {P : Program} {ops : Array Oper} {Q : Exit → Act → World → Prop} {md : Region.Mode} {S : World → Prop} {t : Nat}

theorem upto_firstN {i : Nat} {oi : Oper} {v : Value} (hi : ops[i]? = some oi) (hsel : Region.noSelect ops = true) (ht : ops[t]? = none)
    (hQ : ∀ c a w, Q (.panic c) (a.put oi.dst v) w → Q (.panic c) a w) :
    ∀ (f : Nat) (listed : Array Bool) (a : Act) (w : World),
      (∀ j oj, ops[j]? = some oj → j ≠ i → listed.getD j true = false → (∀ e ∈ oj.after, Region.binds md e = true → e.on ≠ i) → oi.apart ops oj = true) →
      i ∈ Region.ready md ops listed → YieldsIf P ops S oi v a → S w →
      wpUpto P md ops Q S t f (listed.setIfInBounds i true) (a.put oi.dst v) w → wpUpto P md ops Q S t (f + 1) listed a w := by
  intro f
  induction f with
  | zero =>
    intro listed a w _ hr hy hS H
    refine ⟨fun h => (by rw [h] at hr; cases hr), fun j hj => ?_⟩
    by_cases hji : j = i
    · subst hji
      exact hy.wpOp hi hS ⟨fun _ => hS, H⟩
    · have hm := ready_mono hj hji
      rw [H.1] at hm
      cases hm
  | succ f ih =>
    intro listed a w hfree hr hy hS H
    refine ⟨fun h => (by rw [h] at hr; cases hr), fun j hj => ?_⟩
    by_cases hji : j = i
    · subst hji
      exact hy.wpOp hi hS ⟨fun _ => hS, H⟩
    · obtain ⟨hjun, oj, hoj, hall⟩ := mem_ready.1 hj
      have hun := (mem_ready.1 hr).1
      have hnl : ¬ listed.getD i false = true := by
        intro h1
        rcases Nat.lt_or_ge i listed.size with h' | h'
        · simp [h'] at hun h1
          rw [hun] at h1
          cases h1
        · simp [Array.getElem?_eq_none h'] at h1
      have hnot : ∀ e ∈ oj.after, Region.binds md e = true → e.on ≠ i := fun e he hb heq => hnl (by rw [← heq]; exact hall e he hb)
      have hjt : j ≠ t := by
        rintro rfl
        rw [ht] at hoj
        cases hoj
      have h1 := H.2 j (ready_mono hj hji)
      have h2 := wpOp_putIf hoj (hfree j oj hoj hji hjun hnot) (fun cs b => Region.noSelect_spec hsel i oi cs b hi) (fun cs b => Region.noSelect_spec hsel j oj cs b hoj) hQ hy h1
      refine wpOp_mono (fun a' w' h3 => ⟨h3.2.1, ih (listed.setIfInBounds j true) a' w' ?_ (ready_mono hr (Ne.symm hji)) h3.1 (h3.2.1 hjt) ?_⟩) h2
      · intro k ok hk hki hunk hno
        refine hfree k ok hk hki ?_ hno
        by_cases hjk : j = k
        · subst hjk; exact hjun
        · rw [getD_set_ne true hjk] at hunk; exact hunk
      · rw [Array.setIfInBounds_comm _ _ hji]
        exact h3.2.2
theorem upto_takeN {i : Nat} {oi : Oper} {v : Value} {f : Nat} {listed : Array Bool} {a : Act} {w : World} (hi : ops[i]? = some oi) (hsel : Region.noSelect ops = true) (ht : ops[t]? = none)
    (hf : Region.free md ops listed i = true) (hr : (Region.ready md ops listed).contains i = true) (hQ : ∀ c a w, Q (.panic c) (a.put oi.dst v) w → Q (.panic c) a w)
    (hwd : Region.wanted oi (yielded ops a.tmps) = true) (hS : S w) (hy : ∀ w, S w → (execOp a.eval oi).run P w = .ok (.value v) w)
    (h : wpUpto P md ops Q S t f (listed.setIfInBounds i true) (a.put oi.dst v) w) : wpUpto P md ops Q S t (f + 1) listed a w :=
  upto_firstN hi hsel ht hQ f listed a w (Region.free_spec hi hf) (by simpa using hr) (Or.inl ⟨hwd, hy⟩) hS h
theorem upto_skipN {i : Nat} {oi : Oper} {f : Nat} {listed : Array Bool} {a : Act} {w : World} (hi : ops[i]? = some oi) (hsel : Region.noSelect ops = true) (ht : ops[t]? = none)
    (hf : Region.free md ops listed i = true) (hr : (Region.ready md ops listed).contains i = true) (hQ : ∀ c a w, Q (.panic c) (a.put oi.dst undef) w → Q (.panic c) a w)
    (hwd : Region.wanted oi (yielded ops a.tmps) = false) (hS : S w)
    (h : ∀ u : Value, wpUpto P md ops Q S t f (listed.setIfInBounds i true) (a.put oi.dst u) w) : wpUpto P md ops Q S t (f + 1) listed a w :=
  upto_firstN hi hsel ht hQ f listed a w (Region.free_spec hi hf) (by simpa using hr) (Or.inr ⟨hwd, rfl⟩) hS (h undef)
end

end Go.Proofs.Yteppnppknfldbaa

/-
  SlotFault, the program's.
-/
set_option linter.unusedSimpArgs false
namespace Go.Proofs.Yteppnppknfldbaa
open Go.RowKit
set_option linter.unusedSectionVars false
variable [DecidableEq Vot] [Inhabited Vot] [DecidableEq Slt] [Inhabited Slt] [DecidableEq Bal] [Inhabited Bal] [DecidableEq Ledg] [Inhabited Ledg] [DecidableEq Leg] [Inhabited Leg]
attribute [local go_sem ↓] Go.wp_at_zero Go.wp_at_succ

theorem other_or (v p : Vot) : other v p = (decide (v.bal < p.bal) || otherB v p) := rfl
set_option maxHeartbeats 4000000 in
theorem implSlotF_any (x : Value) (d : Slt) (w : World) (hx : sltR.V w x d) :
    Calls Try.prog 38 #[x] w fun e w' => e = .returned (.int .i64 (sltFault d)) ∧ Below w.heap.size w w' := by
  obtain ⟨u1, rfl, hx⟩ := hx
  obtain ⟨ax, cx, rfl, hcx, hmx, hx⟩ := hx
  unfold maxLen at hmx
  cases h1 : inB d.con 1 1000000000
  · rw [sltF_range (by simp [sltRange, h1])]
    go_enter Try.func38, Try.ntmps38
    go_wp2_with (first | (go_at_call 41; refine (isId_any _ _).mono ?_; rintro e w' ⟨rfl, rfl⟩) | (go_at_call 42; refine (isShard_any _ _).mono ?_; rintro e w' ⟨rfl, rfl⟩) | (go_at_call 29; refine (within_any _ _ _ _).mono ?_; rintro e w' ⟨rfl, rfl⟩))
    go_ret
    exact ⟨rfl, by (repeat (first | exact Below.refl _ _ | assumption | refine Below.drew ?_ | refine balloc ?_ _ | refine bset ?_ (by simp; omega) _ | refine bset ?_ (by simp) _ | refine bstep ?_ (by assumption)))⟩
  cases h2 : inB d.sh 0 2
  · rw [sltF_range (by simp [sltRange, h2])]
    go_enter Try.func38, Try.ntmps38
    go_wp2_with (first | (go_at_call 41; refine (isId_any _ _).mono ?_; rintro e w' ⟨rfl, rfl⟩) | (go_at_call 42; refine (isShard_any _ _).mono ?_; rintro e w' ⟨rfl, rfl⟩) | (go_at_call 29; refine (within_any _ _ _ _).mono ?_; rintro e w' ⟨rfl, rfl⟩))
    go_ret
    exact ⟨rfl, by (repeat (first | exact Below.refl _ _ | assumption | refine Below.drew ?_ | refine balloc ?_ _ | refine bset ?_ (by simp; omega) _ | refine bset ?_ (by simp) _ | refine bstep ?_ (by assumption)))⟩
  cases h3 : inB d.pr (-1) 1000
  · rw [sltF_range (by simp [sltRange, h3])]
    go_enter Try.func38, Try.ntmps38
    go_wp2_with (first | (go_at_call 41; refine (isId_any _ _).mono ?_; rintro e w' ⟨rfl, rfl⟩) | (go_at_call 42; refine (isShard_any _ _).mono ?_; rintro e w' ⟨rfl, rfl⟩) | (go_at_call 29; refine (within_any _ _ _ _).mono ?_; rintro e w' ⟨rfl, rfl⟩))
    go_ret
    exact ⟨rfl, by (repeat (first | exact Below.refl _ _ | assumption | refine Below.drew ?_ | refine balloc ?_ _ | refine bset ?_ (by simp; omega) _ | refine bset ?_ (by simp) _ | refine bstep ?_ (by assumption)))⟩
  have hR : Hid (sltRange d = true) := by show _ = _; simp [sltRange, h1, h2, h3]
  by_cases h6 : 60 < d.cast.length
  · rw [sltF_many hR.out h6]
    go_enter Try.func38, Try.ntmps38
    go_wp2_with (first | (go_at_call 41; refine (isId_any _ _).mono ?_; rintro e w' ⟨rfl, rfl⟩) | (go_at_call 42; refine (isShard_any _ _).mono ?_; rintro e w' ⟨rfl, rfl⟩) | (go_at_call 29; refine (within_any _ _ _ _).mono ?_; rintro e w' ⟨rfl, rfl⟩))
    go_ret
    exact ⟨rfl, by (repeat (first | exact Below.refl _ _ | assumption | refine Below.drew ?_ | refine balloc ?_ _ | refine bset ?_ (by simp; omega) _ | refine bset ?_ (by simp) _ | refine bstep ?_ (by assumption)))⟩
  obtain ⟨xs, hxs⟩ : ∃ xs, xs = d.cast := ⟨_, rfl⟩
  have HXS : Hid (d.cast = xs) := hxs.symm
  rw [← hxs] at h6 hcx hx ⊢
  clear hxs
  obtain ⟨n, hn'⟩ : ∃ n, n = xs.length := ⟨_, rfl⟩
  have HN : Hid (xs.length = n) := hn'.symm
  rw [← hn'] at h6 hcx hx ⊢
  clear hn'
  go_enter Try.func38, Try.ntmps38
  go_wp2_with (first | (go_at_call 41; refine (isId_any _ _).mono ?_; rintro e w' ⟨rfl, rfl⟩) | (go_at_call 42; refine (isShard_any _ _).mono ?_; rintro e w' ⟨rfl, rfl⟩) | (go_at_call 29; refine (within_any _ _ _ _).mono ?_; rintro e w' ⟨rfl, rfl⟩) | fail)
  refine (noVote_any _).mono ?_
  rintro e w1 ⟨rfl, hb1⟩
  have hB1 : Below w.heap.size w w1 := bstep (by (repeat (first | exact Below.refl _ _ | assumption | refine Below.drew ?_ | refine balloc ?_ _ | refine bset ?_ (by simp; omega) _ | refine bset ?_ (by simp) _ | refine bstep ?_ (by assumption)))) hb1
  have k2 : w1.cell? ⟨w.heap.size, 2, none⟩ = some (.int .i64 d.pr) := cell_keep hb1 (by simp [go_sem])
  have k3 : w1.cell? ⟨w.heap.size, 3, none⟩ = some (.int .i64 d.lb) := cell_keep hb1 (by simp [go_sem])
  have k4 : w1.cell? ⟨w.heap.size, 4, none⟩ = some (.int .i64 d.lv) := cell_keep hb1 (by simp [go_sem])
  have k5 : w1.cell? ⟨w.heap.size, 5, none⟩ = some (.slice ax n cx) := cell_keep hb1 (by simp [go_sem])
  clear hb1
  have z1 : w.heap.size < w1.heap.size := World.block_lt_of_cell? w1 _ k2
  go_wp2
  go_loopw [30] (fun i w' => ∃ k : Nat, k ≤ n ∧ i = .int .i64 k ∧ scanI (votAt xs) k = 0 ∧ (w'.cell? ⟨w.heap.size, 2, none⟩ = some (.int .i64 d.pr) ∧ w'.cell? ⟨w.heap.size, 3, none⟩ = some (.int .i64 d.lb) ∧ w'.cell? ⟨w.heap.size, 4, none⟩ = some (.int .i64 d.lv)) ∧ w'.cell? ⟨w1.heap.size, 0, none⟩ = some (.int .i64 (lastV xs k).bal) ∧ w'.cell? ⟨w1.heap.size, 1, none⟩ = some (.int .i64 (lastV xs k).val) ∧ (∀ o, w'.frozen? ⟨w1.heap.size, o, none⟩ = false) ∧ Below w.heap.size w w') (fun i _ => n - (intOf i).toNat)
  case atStart => exact ⟨0, Nat.zero_le _, rfl, rfl, ⟨cell_keep (balloc (Below.refl _ _) _) k2, cell_keep (balloc (Below.refl _ _) _) k3, cell_keep (balloc (Below.refl _ _) _) k4⟩, by simp [go_sem, lastV_zero, noV], by simp [go_sem, lastV_zero, noV], by simp [go_sem], by (repeat (first | exact Below.refl _ _ | assumption | refine Below.drew ?_ | refine balloc ?_ _ | refine bset ?_ (by simp; omega) _ | refine bset ?_ (by simp) _ | refine bstep ?_ (by assumption)))⟩
  case round =>
    clear k2 k3 k4 k5 hB1
    obtain ⟨k, hk, rfl, hs, ⟨c2, c3, c4⟩, e0, e1, ef, hbl⟩ := hrel
    have HS : Hid (scanI (votAt xs) k = 0) := hs
    clear hs
    have z0 : w.heap.size < wr.heap.size := World.block_lt_of_cell? wr _ c2
    have z2 : w1.heap.size < wr.heap.size := World.block_lt_of_cell? wr _ e0
    obtain ⟨q, hq⟩ : ∃ q, q = lastV xs k := ⟨_, rfl⟩
    have HQ : Hid (lastV xs k = q) := hq.symm
    rw [← hq] at e0 e1
    clear hq
    by_cases hlt : k < n
    · obtain ⟨bx, ox, rfl, g1⟩ := hx k hlt
      obtain ⟨l, hl⟩ : ∃ l, l = xs.getD k default := ⟨_, rfl⟩
      rw [← hl] at g1
      have HL : Hid (l = xs.getD k default) := hl
      clear hl hx
      obtain ⟨a1, a2⟩ := votCells_below hbl g1
      clear g1
      cases v1 : votB l
      · go_wp2_with (go_at_call 28; refine (isVote_any l _).mono ?_; rintro e w' ⟨rfl, hb⟩)
        go_ret
        refine ⟨?_, by (repeat (first | exact Below.refl _ _ | assumption | refine Below.drew ?_ | refine balloc ?_ _ | refine bset ?_ (by simp; omega) _ | refine bset ?_ (by simp) _ | refine bstep ?_ (by assumption)))⟩
        rw [sltF_hit (k := k) (c := 3) hR.out (by rw [HXS.out, HN.out]; omega) (by rw [HXS.out, HN.out]; exact hlt) (by rw [HXS.out]; exact HS.out) (by rw [HXS.out]; exact votAt_bad (by rw [← HL.out]; exact v1)) (by omega)]
        rfl
      have hok : Hid (votB (xs.getD k default) = true) := by show _ = _; rw [← HL.out]; exact v1
      go_wp2_with fail
      refine (isVote_any l _).mono ?_
      rintro e w2 ⟨rfl, hb2⟩
      have hB2 : Below w.heap.size w w2 := bstep (balloc hbl _) hb2
      have b0 : w2.cell? ⟨wr.heap.size, 0, none⟩ = some (.int .i64 l.bal) := cell_keep hb2 (by simp [go_sem])
      have b1 : w2.cell? ⟨wr.heap.size, 1, none⟩ = some (.int .i64 l.val) := cell_keep hb2 (by simp [go_sem])
      replace c2 := cell_keep hb2 (cell_keep (by (repeat (first | exact Below.refl _ _ | assumption | refine Below.drew ?_ | refine balloc ?_ _ | refine bset ?_ (by simp; omega) _ | refine bset ?_ (by simp) _ | refine bstep ?_ (by assumption)))) c2)
      replace c3 := cell_keep hb2 (cell_keep (by (repeat (first | exact Below.refl _ _ | assumption | refine Below.drew ?_ | refine balloc ?_ _ | refine bset ?_ (by simp; omega) _ | refine bset ?_ (by simp) _ | refine bstep ?_ (by assumption)))) c3)
      replace c4 := cell_keep hb2 (cell_keep (by (repeat (first | exact Below.refl _ _ | assumption | refine Below.drew ?_ | refine balloc ?_ _ | refine bset ?_ (by simp; omega) _ | refine bset ?_ (by simp) _ | refine bstep ?_ (by assumption)))) c4)
      replace e0 := cell_keep hb2 (cell_keep (by (repeat (first | exact Below.refl _ _ | assumption | refine Below.drew ?_ | refine balloc ?_ _ | refine bset ?_ (by simp; omega) _ | refine bset ?_ (by simp) _ | refine bstep ?_ (by assumption)))) e0)
      replace e1 := cell_keep hb2 (cell_keep (by (repeat (first | exact Below.refl _ _ | assumption | refine Below.drew ?_ | refine balloc ?_ _ | refine bset ?_ (by simp; omega) _ | refine bset ?_ (by simp) _ | refine bstep ?_ (by assumption)))) e1)
      replace ef : ∀ o, w2.frozen? ⟨w1.heap.size, o, none⟩ = false := fun o => by rw [(bcell hb2).2 _ _ (by simp; omega)]; simp [go_sem, ef, z2]
      clear hb2 hbl a1 a2
      rw [v1]
      by_cases q1 : l.bal < q.bal
      · go_wp2
        go_ret
        refine ⟨?_, hB2⟩
        rw [sltF_hit (k := k) (c := 1) hR.out (by rw [HXS.out, HN.out]; omega) (by rw [HXS.out, HN.out]; exact hlt) (by rw [HXS.out]; exact HS.out) (by rw [HXS.out]; exact votAt_other hok.out (by rw [← HL.out, HQ.out, other_or]; simp [q1])) (by omega)]
        rfl
      · go_wp2_with fail
        refine (isOtherwise_any l q _).mono ?_
        rintro e w3 ⟨rfl, hb3⟩
        have hB3 : Below w.heap.size w w3 := bstep hB2 hb3
        have z3 : w1.heap.size < w2.heap.size := World.block_lt_of_cell? w2 _ e0
        replace b0 := cell_keep hb3 b0
        replace b1 := cell_keep hb3 b1
        replace c2 := cell_keep hb3 c2
        replace c3 := cell_keep hb3 c3
        replace c4 := cell_keep hb3 c4
        replace e0 := cell_keep hb3 e0
        replace e1 := cell_keep hb3 e1
        replace ef : ∀ o, w3.frozen? ⟨w1.heap.size, o, none⟩ = false := fun o => by rw [(bcell hb3).2 _ _ z3]; exact ef o
        clear hb3 hB2
        cases q2 : otherB l q
        · go_wp2
          refine ⟨⟨k + 1, by omega, by go_num, scanI_succ HS.out (votAt_ok hok.out (by rw [← HL.out, HQ.out, other_or, q2]; simp [q1])), ⟨by simp [go_sem, c2], by simp [go_sem, c3], by simp [go_sem, c4]⟩, ?_, ?_, by simp [go_sem, ef], by (repeat (first | refine bset ?_ (by simp; omega) _ | refine bset ?_ (by simp) _ | refine balloc ?_ _ | assumption))⟩, by simp [intOf]; omega⟩
          · rw [lastV_succ, ← HL.out]
            simp [go_sem, e0]
          · rw [lastV_succ, ← HL.out]
            simp [go_sem, e1]
        · go_wp2
          go_ret
          refine ⟨?_, hB3⟩
          rw [sltF_hit (k := k) (c := 1) hR.out (by rw [HXS.out, HN.out]; omega) (by rw [HXS.out, HN.out]; exact hlt) (by rw [HXS.out]; exact HS.out) (by rw [HXS.out]; exact votAt_other hok.out (by rw [← HL.out, HQ.out, other_or, q2]; simp)) (by omega)]
          rfl
    · have hkn : k = n := by omega
      subst hkn
      have HE : Hid (sltFault d = if (d.lb = q.bal ∧ d.lv = q.val) ∧ d.lb ≤ d.pr then 0 else 1) := by
        show _ = _
        rw [sltF_end hR.out (by rw [HXS.out, HN.out]; omega) (by rw [HXS.out, HN.out]; exact HS.out), HXS.out, HN.out, HQ.out]
      clear hx hlt
      cases he : (decide (d.lb = q.bal) && decide (d.lv = q.val))
      · have heq : ∀ w, (binOp .neq 40 (.agg #[.int .i64 d.lb, .int .i64 d.lv]) (.agg #[.int .i64 q.bal, .int .i64 q.val])).run Try.prog w = .ok (.bool true) w := fun w => by rw [neqVot, he]; rfl
        go_wp2
        go_ret
        refine ⟨?_, hbl⟩
        rw [HE.out, if_neg (by simp at he; rintro ⟨⟨e1, e2⟩, _⟩; exact he e1 e2)]
        rfl
      · have heq : ∀ w, (binOp .neq 40 (.agg #[.int .i64 d.lb, .int .i64 d.lv]) (.agg #[.int .i64 q.bal, .int .i64 q.val])).run Try.prog w = .ok (.bool false) w := fun w => by rw [neqVot, he]; rfl
        simp at he
        have HB : Hid (d.lb = q.bal ∧ d.lv = q.val) := he
        clear he
        go_wp2
        · rename_i hle
          go_ret
          refine ⟨?_, hbl⟩
          rw [HE.out, if_neg (by rintro ⟨_, h⟩; have := HB.out.1; omega)]
          rfl
        · rename_i hle
          go_ret
          refine ⟨?_, hbl⟩
          rw [HE.out, if_pos ⟨HB.out, by have := HB.out.1; omega⟩]
          rfl
end Go.Proofs.Yteppnppknfldbaa

/-
  AcceptorFault, the program's.
-/
set_option linter.unusedSimpArgs false
set_option linter.unusedVariables false
namespace Go.Proofs.Yteppnppknfldbaa
open Go.RowKit
set_option linter.unusedSectionVars false
variable [DecidableEq Vot] [Inhabited Vot] [DecidableEq Slt] [Inhabited Slt] [DecidableEq SltR] [Inhabited SltR] [DecidableEq Bal] [Inhabited Bal] [DecidableEq Ledg] [Inhabited Ledg] [DecidableEq Leg] [Inhabited Leg] [DecidableEq Acc] [Inhabited Acc] [DecidableEq AccR] [Inhabited AccR] [DecidableEq AccsR] [Inhabited AccsR] [DecidableEq SltsR] [Inhabited SltsR]
attribute [local go_sem ↓] Go.wp_at_zero Go.wp_at_succ

set_option maxRecDepth 20000 in
set_option maxHeartbeats 8000000 in
theorem implAccF_any (x : Value) (d : Acc) (w : World) (hx : accR.V w x d) :
    Calls Try.prog 40 #[x] w fun e w' => e = .returned (.int .i64 (accF d.slots)) ∧ Below w.heap.size w w' := by
  obtain ⟨u1, rfl, hx⟩ := hx
  obtain ⟨ax, cx, rfl, hcx, hmx, hx⟩ := hx
  unfold maxLen at hmx
  obtain ⟨xs⟩ := d
  dsimp only at hx hcx ⊢
  obtain ⟨n, hn'⟩ : ∃ n, n = xs.length := ⟨_, rfl⟩
  have HN : Hid (xs.length = n) := hn'.symm
  rw [← hn'] at hcx hx ⊢
  clear hn'
  by_cases h6 : 60 < n
  · have HC : Hid (accF xs = 2) := accF_many (by rw [HN.out]; exact h6)
    have h6' : (60 : Int) < n := by omega
    clear hx
    go_enter Try.func40, Try.ntmps40
    go_wp2
    go_ret
    exact ⟨by rw [HC.out]; rfl, by (repeat (first | exact Below.refl _ _ | assumption | refine Below.drew ?_ | refine balloc ?_ _ | refine bset ?_ (by simp; omega) _ | refine bset ?_ (by simp) _ | refine bstep ?_ (by assumption)))⟩
  have h6' : ¬ (60 : Int) < n := by omega
  have HH : Hid (∀ k c, k < n → scanI (accAt xs) k = 0 → accAt xs k = c → ¬ c = 0 → accF xs = c) := fun k c hk hs hc h0 => accF_hit (by rw [HN.out]; exact h6) (by rw [HN.out]; exact hk) hs hc h0
  have HE : Hid (scanI (accAt xs) n = 0 → accF xs = 0) := fun hs => accF_end (by rw [HN.out]; exact h6) (by rw [HN.out]; exact hs)
  clear h6
  go_enter Try.func40, Try.ntmps40
  go_wp2
  go_loopw [13] (fun i w' => ∃ k : Nat, k ≤ n ∧ i = .int .i64 k ∧ scanI (accAt xs) k = 0 ∧ w'.cell? ⟨w.heap.size, 0, none⟩ = some (.slice ax n cx) ∧ Below w.heap.size w w') (fun i _ => n - (intOf i).toNat)
  case atStart => exact ⟨0, Nat.zero_le _, rfl, rfl, by simp [go_sem], by (repeat (first | exact Below.refl _ _ | assumption | refine Below.drew ?_ | refine balloc ?_ _ | refine bset ?_ (by simp; omega) _ | refine bset ?_ (by simp) _ | refine bstep ?_ (by assumption)))⟩
  case round =>
    obtain ⟨k, hk, rfl, hs, hq, hbl⟩ := hrel
    have HS : Hid (scanI (accAt xs) k = 0) := hs
    clear hs
    by_cases hlt : k < n
    · obtain ⟨bxa, oxa, ua, rfl, _, pa, hva⟩ := hx k (by omega)
      obtain ⟨l, hla⟩ : ∃ l, l = xs.getD k default := ⟨_, rfl⟩
      rw [← hla] at hva
      have HLa : Hid (l = xs.getD k default) := hla
      clear hla
      have hVa := hva
      obtain ⟨sa, rfl, hca⟩ := hva
      obtain ⟨aua, cua, rfl⟩ := vots_form hca
      clear hca
      have ga0 : w.cell? ⟨bxa, oxa + k * 6, none⟩ = some (.int .i64 l.con) := pa 0 (by omega)
      have ga1 : w.cell? ⟨bxa, oxa + k * 6 + 1, none⟩ = some (.int .i64 l.sh) := pa 1 (by omega)
      have ga2 : w.cell? ⟨bxa, oxa + k * 6 + 2, none⟩ = some (.int .i64 l.pr) := pa 2 (by omega)
      have ga3 : w.cell? ⟨bxa, oxa + k * 6 + 3, none⟩ = some (.int .i64 l.lb) := pa 3 (by omega)
      have ga4 : w.cell? ⟨bxa, oxa + k * 6 + 4, none⟩ = some (.int .i64 l.lv) := pa 4 (by omega)
      have ga5 : w.cell? ⟨bxa, oxa + k * 6 + 5, none⟩ = some (.slice aua l.cast.length cua) := pa 5 (by omega)
      clear pa
      have HF : Hid (∀ W, Below w.heap.size w W → Calls Try.prog 38 #[.agg #[.int .i64 l.con, .int .i64 l.sh, .int .i64 l.pr, .int .i64 l.lb, .int .i64 l.lv, .slice aua l.cast.length cua]] W fun e w' => e = .returned (.int .i64 (sltFault l)) ∧ Below W.heap.size W w') := fun W h => implSlotF_any _ l W (sltR.below hVa h)
      clear hVa
      have hX : Hid (∀ i, i < n → ∃ b o u, some (⟨bxa, oxa, none⟩ : Addr) = some ⟨b, o, none⟩ ∧ (lvSlt u).length = 6 ∧ (∀ j, j < 6 → w.cell? ⟨b, o + i * 6 + j, none⟩ = (lvSlt u)[j]?) ∧ sltR.V w u (xs.getD i default)) := hx
      clear hx
      replace ga0 := cell_keep hbl ga0
      replace ga1 := cell_keep hbl ga1
      replace ga2 := cell_keep hbl ga2
      replace ga3 := cell_keep hbl ga3
      replace ga4 := cell_keep hbl ga4
      replace ga5 := cell_keep hbl ga5
      have zb : bxa < wr.heap.size := World.block_lt_of_cell? wr _ ga0
      have zq : w.heap.size < wr.heap.size := World.block_lt_of_cell? wr _ hq
      go_wp2_with fail
      refine (HF.out _ (by (repeat (first | exact Below.refl _ _ | assumption | refine Below.drew ?_ | refine balloc ?_ _ | refine bset ?_ (by simp; omega) _ | refine bset ?_ (by simp) _ | refine bstep ?_ (by assumption))))).mono ?_
      rintro e w1 ⟨rfl, hb1⟩
      have hB1 : Below w.heap.size w w1 := bstep (by (repeat (first | exact Below.refl _ _ | assumption | refine Below.drew ?_ | refine balloc ?_ _ | refine bset ?_ (by simp; omega) _ | refine bset ?_ (by simp) _ | refine bstep ?_ (by assumption)))) hb1
      have hq1 : w1.cell? ⟨w.heap.size, 0, none⟩ = some (.slice (some ⟨bxa, oxa, none⟩) n cx) := cell_keep hb1 (by simp [go_sem, hq, zq])
      have s0 : w1.cell? ⟨wr.heap.size, 0, none⟩ = some (.int .i64 l.con) := cell_keep hb1 (by simp [go_sem])
      have s1 : w1.cell? ⟨wr.heap.size, 1, none⟩ = some (.int .i64 l.sh) := cell_keep hb1 (by simp [go_sem])
      have s2 : w1.cell? ⟨wr.heap.size, 2, none⟩ = some (.int .i64 l.pr) := cell_keep hb1 (by simp [go_sem])
      have s3 : w1.cell? ⟨wr.heap.size, 3, none⟩ = some (.int .i64 l.lb) := cell_keep hb1 (by simp [go_sem])
      have s4 : w1.cell? ⟨wr.heap.size, 4, none⟩ = some (.int .i64 l.lv) := cell_keep hb1 (by simp [go_sem])
      have s5 : w1.cell? ⟨wr.heap.size, 5, none⟩ = some (.slice aua l.cast.length cua) := cell_keep hb1 (by simp [go_sem])
      replace ga0 := cell_keep hb1 (cell_keep (by (repeat (first | exact Below.refl _ _ | assumption | refine Below.drew ?_ | refine balloc ?_ _ | refine bset ?_ (by simp; omega) _ | refine bset ?_ (by simp) _ | refine bstep ?_ (by assumption)))) ga0)
      replace ga1 := cell_keep hb1 (cell_keep (by (repeat (first | exact Below.refl _ _ | assumption | refine Below.drew ?_ | refine balloc ?_ _ | refine bset ?_ (by simp; omega) _ | refine bset ?_ (by simp) _ | refine bstep ?_ (by assumption)))) ga1)
      replace ga2 := cell_keep hb1 (cell_keep (by (repeat (first | exact Below.refl _ _ | assumption | refine Below.drew ?_ | refine balloc ?_ _ | refine bset ?_ (by simp; omega) _ | refine bset ?_ (by simp) _ | refine bstep ?_ (by assumption)))) ga2)
      replace ga3 := cell_keep hb1 (cell_keep (by (repeat (first | exact Below.refl _ _ | assumption | refine Below.drew ?_ | refine balloc ?_ _ | refine bset ?_ (by simp; omega) _ | refine bset ?_ (by simp) _ | refine bstep ?_ (by assumption)))) ga3)
      replace ga4 := cell_keep hb1 (cell_keep (by (repeat (first | exact Below.refl _ _ | assumption | refine Below.drew ?_ | refine balloc ?_ _ | refine bset ?_ (by simp; omega) _ | refine bset ?_ (by simp) _ | refine bstep ?_ (by assumption)))) ga4)
      replace ga5 := cell_keep hb1 (cell_keep (by (repeat (first | exact Below.refl _ _ | assumption | refine Below.drew ?_ | refine balloc ?_ _ | refine bset ?_ (by simp; omega) _ | refine bset ?_ (by simp) _ | refine bstep ?_ (by assumption)))) ga5)
      clear hb1 hq
      have HX : Hid (accAt xs k = if sltFault l = 0 then (if k = 0 then 0 else if aheadS (xs.getD (k - 1) default) l = true then 0 else 1) else sltFault l) := by show _ = _; unfold accAt; rw [← HLa.out]
      by_cases hf : sltFault l = 0
      · rw [hf]
        have HX2 : Hid (accAt xs k = if k = 0 then 0 else if aheadS (xs.getD (k - 1) default) l = true then 0 else 1) := by show _ = _; rw [HX.out, if_pos hf]
        clear hf HX
        cases k with
        | zero =>
          have H0 : Hid (accAt xs 0 = 0) := by show _ = _; rw [HX2.out, if_pos rfl]
          clear HX2
          clear ga0 ga1 ga2 ga3 ga4 ga5 hX
          go_wp2
          go_quiet (fail)
          go_wp2
          exact ⟨⟨1, by omega, by go_num, scanI_succ HS.out H0.out, cell_keep (bdrewN (Below.refl _ _) _) hq1, bdrewN hB1 _⟩, by simp [intOf]; omega⟩
        | succ p =>
          have hx := hX.out
          clear hX
          have hxz := hx p (by omega)
          obtain ⟨bxz, oxz, uz, hez, _, pz, hvz⟩ := hxz
          simp only [Option.some.injEq, Addr.mk.injEq, and_true] at hez
          obtain ⟨rfl, rfl⟩ := hez
          obtain ⟨z, hlz⟩ : ∃ l, l = xs.getD p default := ⟨_, rfl⟩
          rw [← hlz] at hvz
          have HLz : Hid (z = xs.getD p default) := hlz
          clear hlz
          have hVz := hvz
          obtain ⟨sz, rfl, hcz⟩ := hvz
          obtain ⟨auz, cuz, rfl⟩ := vots_form hcz
          clear hcz
          have gz0 : w.cell? ⟨bxa, oxa + p * 6, none⟩ = some (.int .i64 z.con) := pz 0 (by omega)
          have gz1 : w.cell? ⟨bxa, oxa + p * 6 + 1, none⟩ = some (.int .i64 z.sh) := pz 1 (by omega)
          have gz2 : w.cell? ⟨bxa, oxa + p * 6 + 2, none⟩ = some (.int .i64 z.pr) := pz 2 (by omega)
          have gz3 : w.cell? ⟨bxa, oxa + p * 6 + 3, none⟩ = some (.int .i64 z.lb) := pz 3 (by omega)
          have gz4 : w.cell? ⟨bxa, oxa + p * 6 + 4, none⟩ = some (.int .i64 z.lv) := pz 4 (by omega)
          have gz5 : w.cell? ⟨bxa, oxa + p * 6 + 5, none⟩ = some (.slice auz z.cast.length cuz) := pz 5 (by omega)
          clear pz
          clear hx hVz
          replace gz0 := cell_keep hB1 gz0
          replace gz1 := cell_keep hB1 gz1
          replace gz2 := cell_keep hB1 gz2
          replace gz3 := cell_keep hB1 gz3
          replace gz4 := cell_keep hB1 gz4
          replace gz5 := cell_keep hB1 gz5
          have i1 : (p : Int) < (n : Int) := by omega
          have i2 : ((p + 1 : Nat) : Int) < (n : Int) := by omega
          have i3 : (0 : Int) < ((p + 1 : Nat) : Int) := by omega
          have i4 : decide (0 < p + 1) = true := decide_eq_true (by omega)
          have i5 : IntKind.i64.wrap (((p + 1 : Nat) : Int) - 1) = (p : Int) := by rw [IntKind.wrap_i64]; omega
          have i6 : (0 : Int) ≤ ((p + 1 : Nat) : Int) := by omega
          have i7 : (0 : Int) ≤ (p : Int) := by omega
          have i8 : (p : Int) + 1 < (n : Int) := by omega
          have i9 : (0 : Int) ≤ (p : Int) + 1 := by omega
          have i10 : ((p : Int) + 1).toNat = p + 1 := by omega
          have w1' : IntKind.i64.wrap (p : Int) = p := wrapId (by omega) (by omega)
          have HX3 : Hid (accAt xs (p + 1) = if aheadS z l = true then 0 else 1) := by show _ = _; rw [HX2.out, if_neg (by omega), Nat.add_sub_cancel, ← HLz.out]
          clear HX2
          obtain ⟨u, hu⟩ : ∃ u : Value, u = .slice aua l.cast.length cua := ⟨_, rfl⟩
          obtain ⟨u', hu'⟩ : ∃ u : Value, u = .slice auz z.cast.length cuz := ⟨_, rfl⟩
          have rA : w1.cell? ⟨wr.heap.size, 0, none⟩ = some (.int .i64 l.con) ∧ w1.cell? ⟨wr.heap.size, 0 + 1, none⟩ = some (.int .i64 l.sh) ∧ w1.cell? ⟨wr.heap.size, 0 + 2, none⟩ = some (.int .i64 l.pr) ∧ w1.cell? ⟨wr.heap.size, 0 + 3, none⟩ = some (.int .i64 l.lb) ∧ w1.cell? ⟨wr.heap.size, 0 + 4, none⟩ = some (.int .i64 l.lv) ∧ w1.cell? ⟨wr.heap.size, 0 + 5, none⟩ = some (.slice aua l.cast.length cua) := ⟨s0, s1, s2, s3, s4, s5⟩
          have rZ : w1.cell? ⟨bxa, oxa + p * 6, none⟩ = some (.int .i64 z.con) ∧ w1.cell? ⟨bxa, oxa + p * 6 + 1, none⟩ = some (.int .i64 z.sh) ∧ w1.cell? ⟨bxa, oxa + p * 6 + 2, none⟩ = some (.int .i64 z.pr) ∧ w1.cell? ⟨bxa, oxa + p * 6 + 3, none⟩ = some (.int .i64 z.lb) ∧ w1.cell? ⟨bxa, oxa + p * 6 + 4, none⟩ = some (.int .i64 z.lv) ∧ w1.cell? ⟨bxa, oxa + p * 6 + 5, none⟩ = some (.slice auz z.cast.length cuz) := ⟨gz0, gz1, gz2, gz3, gz4, gz5⟩
          clear ga0 gz0 s0 ga1 gz1 s1 ga2 gz2 s2 ga3 gz3 s3 ga4 gz4 s4 ga5 gz5 s5 hu hu'
          cases hah : aheadS z l
          · have hah' : aheadS z l = false := hah
            have hge : decide (0 ≤ cmpS z l) = true := by unfold aheadS at hah; have h' := of_decide_eq_false hah; exact decide_eq_true (by omega)
            have hg2 : 0 ≤ cmpS z l := of_decide_eq_true hge
            have HAH : Hid (aheadS z l = false) := hah'
            clear hah'
            go_wp2
            go_region_held3 (fun W => Below w1.heap.size w1 W ∧ (W.cell? ⟨wr.heap.size, 0, none⟩ = some (.int .i64 l.con) ∧ W.cell? ⟨wr.heap.size, 0 + 1, none⟩ = some (.int .i64 l.sh) ∧ W.cell? ⟨wr.heap.size, 0 + 2, none⟩ = some (.int .i64 l.pr) ∧ W.cell? ⟨wr.heap.size, 0 + 3, none⟩ = some (.int .i64 l.lb) ∧ W.cell? ⟨wr.heap.size, 0 + 4, none⟩ = some (.int .i64 l.lv) ∧ W.cell? ⟨wr.heap.size, 0 + 5, none⟩ = some (.slice aua l.cast.length cua)) ∧ (W.cell? ⟨bxa, oxa + p * 6, none⟩ = some (.int .i64 z.con) ∧ W.cell? ⟨bxa, oxa + p * 6 + 1, none⟩ = some (.int .i64 z.sh) ∧ W.cell? ⟨bxa, oxa + p * 6 + 2, none⟩ = some (.int .i64 z.pr) ∧ W.cell? ⟨bxa, oxa + p * 6 + 3, none⟩ = some (.int .i64 z.lb) ∧ W.cell? ⟨bxa, oxa + p * 6 + 4, none⟩ = some (.int .i64 z.lv) ∧ W.cell? ⟨bxa, oxa + p * 6 + 5, none⟩ = some (.slice auz z.cast.length cuz)) ∧ W.cell? ⟨w.heap.size, 0, none⟩ = some (.slice (some ⟨bxa, oxa, none⟩) n cx)) ((refine sltKeep3 ?_ rA rZ hq1; repeat (first | exact Below.refl _ _ | assumption | refine Below.drew ?_ | refine balloc ?_ _ | refine bstep ?_ (by assumption)))) (first | (go_at_call 48; refine (compareSlots_any z l _ _ _).mono ?_; rintro e wa ⟨rfl, hb2⟩))
            rename_i hH
            have hB2 := bstep hB1 hH.1
            have hq2 := hH.2.2.2
            clear hH
            have HC : Hid (accF xs = 1) := HH.out (p + 1) 1 hlt HS.out (by rw [HX3.out, HAH.out]; rfl) (by omega)
            go_wp2
            go_ret
            exact ⟨by rw [HC.out]; rfl, hB2⟩
          · have hah' : aheadS z l = true := hah
            have hge : decide (0 ≤ cmpS z l) = false := by unfold aheadS at hah; have h' := of_decide_eq_true hah; exact decide_eq_false (by omega)
            have hg2 : ¬ 0 ≤ cmpS z l := of_decide_eq_false hge
            have HAH : Hid (aheadS z l = true) := hah'
            clear hah'
            go_wp2
            go_region_held3 (fun W => Below w1.heap.size w1 W ∧ (W.cell? ⟨wr.heap.size, 0, none⟩ = some (.int .i64 l.con) ∧ W.cell? ⟨wr.heap.size, 0 + 1, none⟩ = some (.int .i64 l.sh) ∧ W.cell? ⟨wr.heap.size, 0 + 2, none⟩ = some (.int .i64 l.pr) ∧ W.cell? ⟨wr.heap.size, 0 + 3, none⟩ = some (.int .i64 l.lb) ∧ W.cell? ⟨wr.heap.size, 0 + 4, none⟩ = some (.int .i64 l.lv) ∧ W.cell? ⟨wr.heap.size, 0 + 5, none⟩ = some (.slice aua l.cast.length cua)) ∧ (W.cell? ⟨bxa, oxa + p * 6, none⟩ = some (.int .i64 z.con) ∧ W.cell? ⟨bxa, oxa + p * 6 + 1, none⟩ = some (.int .i64 z.sh) ∧ W.cell? ⟨bxa, oxa + p * 6 + 2, none⟩ = some (.int .i64 z.pr) ∧ W.cell? ⟨bxa, oxa + p * 6 + 3, none⟩ = some (.int .i64 z.lb) ∧ W.cell? ⟨bxa, oxa + p * 6 + 4, none⟩ = some (.int .i64 z.lv) ∧ W.cell? ⟨bxa, oxa + p * 6 + 5, none⟩ = some (.slice auz z.cast.length cuz)) ∧ W.cell? ⟨w.heap.size, 0, none⟩ = some (.slice (some ⟨bxa, oxa, none⟩) n cx)) ((refine sltKeep3 ?_ rA rZ hq1; repeat (first | exact Below.refl _ _ | assumption | refine Below.drew ?_ | refine balloc ?_ _ | refine bstep ?_ (by assumption)))) (first | (go_at_call 48; refine (compareSlots_any z l _ _ _).mono ?_; rintro e wa ⟨rfl, hb2⟩))
            rename_i hH
            have hB2 := bstep hB1 hH.1
            have hq2 := hH.2.2.2
            clear hH
            have H0 : Hid (accAt xs (p + 1) = 0) := by show _ = _; rw [HX3.out, HAH.out]; rfl
            go_wp2
            exact ⟨⟨p + 1 + 1, by omega, by go_num, scanI_succ HS.out H0.out, hq2, hB2⟩, by simp [intOf]; omega⟩
      · have HC : Hid (accF xs = sltFault l) := HH.out k _ hlt HS.out (by rw [HX.out, if_neg hf]) hf
        clear HX hX
        generalize sltFault l = c at *
        go_wp2
        go_ret
        exact ⟨by rw [HC.out]; rfl, hB1⟩
    · have hkn : k = n := by omega
      subst hkn
      have HC : Hid (accF xs = 0) := HE.out HS.out
      go_wp2
      go_ret
      exact ⟨by rw [HC.out]; rfl, by (repeat (first | exact Below.refl _ _ | assumption | refine Below.drew ?_ | refine balloc ?_ _ | refine bset ?_ (by simp; omega) _ | refine bset ?_ (by simp) _ | refine bstep ?_ (by assumption)))⟩
end Go.Proofs.Yteppnppknfldbaa

/-
  slices.Insert of one slot into slots that own their memory.
-/
namespace Go.Proofs.Yteppnppknfldbaa
open Go.RowKit Go.Shelf
set_option linter.unusedSectionVars false
variable [DecidableEq Vot] [Inhabited Vot] [DecidableEq Slt] [Inhabited Slt] [DecidableEq Bal] [Inhabited Bal] [DecidableEq Ledg] [Inhabited Ledg] [DecidableEq Leg] [Inhabited Leg]
set_option linter.unusedVariables false
set_option linter.unusedSimpArgs false

theorem run_copyS (w : World) (dT sT ty elem : TypeId) (sz g o dLen dCap : Nat) (a : Addr) (sLen sCap m : Nat) (cur : Array Value) (t : TypeId) (cs : List Value)
    (hu : Try.prog.underlying dT = some (.slice elem)) (hs : (Try.prog.info? elem).map (·.size) = some sz)
    (hg : w.heap[g]? = some (.cells cur t (0, 0))) (hm : Nat.min sLen dLen = m) (hn : cs.length = m * sz)
    (hsrc : ∀ j v, cs[j]? = some v → w.cell? (a.add j) = some v) (hfit : o + cs.length ≤ cur.size) (h1 : ∀ v ∈ cs, v.oneCell' = true) :
    (Builtin.copy_ #[dT, sT] ty #[.slice (some ⟨g, o, none⟩) dLen dCap, .slice (some a) sLen sCap]).run Try.prog w =
      .ok (goInt m) (w.setRow g (cur.toList.take o ++ cs ++ cur.toList.drop (o + cs.length)).toArray) := by
  have hl := run_loadCells_list (P := Try.prog) w a cs hsrc
  have hst := run_storeCells_at Try.prog g o t cs 0 cur w hg (by simpa using hfit) h1
  cases hq : Try.prog.info? elem with
  | none => simp [hq] at hs
  | some i =>
    have hi : i.size = sz := by simpa [hq] using hs
    rw [hn] at hl
    simp [Builtin.copy_, run_underlying hu, Builtin.lenOf, Builtin.firstCells, sizeOf, typeInfo, hq, hi, hm, hl, hst]
theorem wpl_copyS (w : World) {ops : Array Oper} {rest : List Oper} {o : Oper} {a : Act} {Q : Exit → Act → World → Prop} (hgd : o.guard = none) (d s : Operand) (t t' : TypeId)
    (ho : o.op = .call { callee := .builtin .copy, args := #[d, s], argTypes := #[t, t'] }) (v u : Value) (hd : a.eval d = v) (hs : a.eval s = u) {v' : Value} {w' : World}
    (hr : (Builtin.copy_ #[t, t'] o.type #[v, u]).run Try.prog w = .ok v' w') (h : wpList Try.prog ops Q rest (a.put o.dst v') w') : wpList Try.prog ops Q (o :: rest) a w := by
  refine wpList_plain hgd fun K hK => ?_
  unfold Oper.wp execOp
  simp only [ho, resolve, invoke, builtin, Sem.run_bind, Sem.run_pure, Result.andThen_ok, List.map_toArray, List.map_cons, List.map_nil, hd, hs, hr]
  exact hK _ _ h
theorem step_copyS {ops : Array Oper} {o : Oper} {a : Act} {w : World} {K : Act → World → Prop} {Q : Exit → Act → World → Prop} {E : Prop} (hgd : o.guard = none) (d s : Operand) (t t' : TypeId)
    (ho : o.op = .call { callee := .builtin .copy, args := #[d, s], argTypes := #[t, t'] }) (v u : Value) (hd : a.eval d = v) (hs : a.eval s = u) {v' : Value} {w' : World}
    (hr : (Builtin.copy_ #[t, t'] o.type #[v, u]).run Try.prog w = .ok v' w') (hK : K (a.put o.dst v') w') :
    if Region.wanted o (yielded ops a.tmps) = true then Oper.wp Try.prog o a w K Q else E := by
  have hw : Region.wanted o (yielded ops a.tmps) = true := by simp [Region.wanted, hgd]
  rw [if_pos hw]
  unfold Oper.wp execOp
  simp only [ho, resolve, invoke, builtin, Sem.run_bind, Sem.run_pure, Result.andThen_ok, List.map_toArray, List.map_cons, List.map_nil, hd, hs, hr]
  exact hK
theorem mod_setRowS (w : World) (g : Nat) (cs : Array Value) : Mod (fun b => b = g) w (w.setRow g cs) :=
  ⟨rfl, rfl, rfl, by simp [World.setRow], fun k _ hn => setRow_other w g k cs hn⟩
theorem addr_addS (b o j : Nat) : (⟨b, o, none⟩ : Addr).add j = ⟨b, o + j, none⟩ := by
  by_cases hj0 : j = 0
  · subst hj0; simp [Addr.add]
  · simp [Addr.add, hj0]
theorem cell_rowS {w : World} {g j : Nat} {cur : Array Value} {t : TypeId} {fr : Nat × Nat} {v : Value} (hg : w.heap[g]? = some (.cells cur t fr)) (h : cur.toList[j]? = some v) : w.cell? ⟨g, j, none⟩ = some v := by
  have : cur[j]? = some v := by rw [← Array.getElem?_toList]; exact h
  simp [World.cell?, hg, this]
theorem heap_newS (w : World) (o : Obj) : (w.alloc o).heap[w.heap.size]? = some o := by
  show (w.heap.push o)[w.heap.size]? = some o
  simp [Array.getElem?_push]
theorem shift_rowS {cur cs vs : List Value} {k m : Nat} (hk : k ≤ cs.length) (hc : cur.take cs.length = cs) (hl : cs.length + m ≤ cur.length) (hv : vs.length = m) :
    ((((cur.take (k + m) ++ cs.drop k ++ cur.drop (k + m + (cs.drop k).length)).take k ++ vs ++ (cur.take (k + m) ++ cs.drop k ++ cur.drop (k + m + (cs.drop k).length)).drop (k + vs.length)).length = cur.length) ∧
    ((cur.take (k + m) ++ cs.drop k ++ cur.drop (k + m + (cs.drop k).length)).take k ++ vs ++ (cur.take (k + m) ++ cs.drop k ++ cur.drop (k + m + (cs.drop k).length)).drop (k + vs.length)).take (cs.length + m) = cs.take k ++ vs ++ cs.drop k) := by
  subst hv
  have h1 : (cur.take (k + vs.length) ++ cs.drop k ++ cur.drop (k + vs.length + (cs.drop k).length)).take k = cs.take k := by
    rw [List.append_assoc, List.take_append_of_le_length (by rw [List.length_take]; omega), List.take_take]
    conv => rhs; rw [← hc, List.take_take]
    congr 1
    omega
  have h2 : (cur.take (k + vs.length) ++ cs.drop k ++ cur.drop (k + vs.length + (cs.drop k).length)).drop (k + vs.length) = cs.drop k ++ cur.drop (k + vs.length + (cs.drop k).length) := by
    rw [List.append_assoc, List.drop_append_of_le_length (by rw [List.length_take]; omega), List.drop_take]
    simp
  rw [h1, h2]
  have hd : (cs.drop k).length = cs.length - k := List.length_drop ..
  constructor
  · simp only [List.length_append, List.length_take, List.length_drop]
    omega
  · rw [← List.append_assoc, List.take_append_of_le_length (by simp only [List.length_append, List.length_take, List.length_drop]; omega), List.take_of_length_le (by simp only [List.length_append, List.length_take, List.length_drop]; omega)]
set_option maxHeartbeats 4000000 in
set_option maxRecDepth 100000 in
theorem insertS_shift (g n c i vb : Nat) (cs vs : List Value) (cur : Array Value) (w : World) (hg : w.heap[g]? = some (.cells cur 43 (0, 0))) (hi : i < n) (hroom : n + 1 ≤ c) (hc63 : c ≤ 9223372036854775807) (hvb : vb ≠ g)
    (hcur : cur.size = c * 6) (hcl : cs.length = n * 6) (ht : cur.toList.take (n * 6) = cs) (hvl : vs.length = 6) (hv : w.heap[vb]? = some (.cells vs.toArray 43 (0, 0))) (h1c : ∀ v ∈ cs, v.oneCell' = true) (h1v : ∀ v ∈ vs, v.oneCell' = true) :
    Calls Try.prog 54 #[.slice (some ⟨g, 0, none⟩) n c, .int .i64 i, .slice (some ⟨vb, 0, none⟩) 1 1] w fun e w' =>
      e = .returned (.slice (some ⟨g, 0, none⟩) (n + 1) c) ∧ ∃ cur' : Array Value, w'.heap[g]? = some (.cells cur' 43 (0, 0)) ∧ cur'.size = c * 6 ∧ cur'.toList.take ((n + 1) * 6) = cs.take (i * 6) ++ vs ++ cs.drop (i * 6) ∧ Mod (fun b => b = g) w w' := by
  have hz2 : ¬ ((i : Int) = (n : Int)) := by omega
  have hsz : (Try.prog.info? 43).map (·.size) = some 6 := by
    obtain ⟨i0, hi0, _, h1, _⟩ := info_parts infoSlts
    rw [hi0]; simp [h1]
  have hzz : ∀ w, (Go.sizeOf 43).run Try.prog w = .ok 6 w := fun w => by
    obtain ⟨i0, hi0, _, h1, _⟩ := info_parts infoSlts
    simp [sizeOf, typeInfo, hi0, h1]
  have hov : ∀ lb cb, (callFunc 59 #[.slice (some ⟨vb, 0, none⟩) 1 1, .slice (some ⟨g, (i + 1) * 6, none⟩) lb cb]).run Try.prog w = .ok (.value (.bool false)) w := fun lb cb => by
    rw [run_callFunc_extern Try.func59 (by kernel_rfl) (by kernel_rfl) (by kernel_rfl) (e := Extern.SlicesOverlaps.overlaps #[31, 31] #[4]) (by kernel_rfl),
      Lib.run_overlaps_apart w 31 4 43 Try.underlying31 6 hzz ⟨vb, 0, none⟩ ⟨g, (i + 1) * 6, none⟩ 1 1 lb cb hvb 43 43 6 (c * 6) (by simp [World.shape?, hv, hvl]) (by simp [World.shape?, hg, hcur]) (by omega) (by simp [World.frozen?, hv]) (by simp [World.frozen?, hv])]
    rfl
  have hdl : (cs.drop (i * 6)).length = (n - i) * 6 := by rw [List.length_drop, hcl]; omega
  have hb1 : (0 : Int) ≤ (i : Int) + 1 := by omega
  have hw1 : IntKind.i64.wrap ((i : Int) + 1) = (i : Int) + 1 := by rw [IntKind.wrap_i64]; omega
  have htn : ((i : Int) + 1).toNat = i + 1 := by omega
  have hin : i ≤ n := by omega
  have hb2 : ¬ (c = i + 1) := by omega
  have hb3 : (i : Int) ≤ (n : Int) + 1 := by omega
  have hb4 : ¬ (c = i) := by omega
  obtain ⟨A1, hA1⟩ : ∃ A1 : Array Value, A1 = (cur.toList.take ((i + 1) * 6) ++ cs.drop (i * 6) ++ cur.toList.drop ((i + 1) * 6 + (cs.drop (i * 6)).length)).toArray := ⟨_, rfl⟩
  have hcp1 : ∀ ty dl dc sl sc, dl = n - i → sl = n + 1 - i → (Builtin.copy_ #[31, 31] ty #[.slice (some ⟨g, (i + 1) * 6, none⟩) dl dc, .slice (some ⟨g, i * 6, none⟩) sl sc]).run Try.prog w.drew = .ok (goInt ((n - i : Nat) : Int)) (w.drew.setRow g A1) := fun ty dl dc sl sc e1 e2 => by
    rw [hA1]
    refine run_copyS w.drew _ _ ty 43 6 g ((i + 1) * 6) dl dc ⟨g, i * 6, none⟩ sl sc (n - i) cur 43 (cs.drop (i * 6)) Try.underlying31 hsz hg (by simp only [Nat.min_def]; split <;> omega) hdl (fun j v hj => ?_) (by rw [hdl, hcur]; omega) (fun v hv => h1c v (List.mem_of_mem_drop hv))
    rw [addr_addS]
    refine cell_rowS hg ?_
    rw [List.getElem?_drop, ← ht, List.getElem?_take] at hj
    split at hj
    · exact hj
    · cases hj
  have hA1s : A1.size = c * 6 := by
    rw [hA1]
    simp only [List.size_toArray, List.length_append, List.length_take, List.length_drop, Array.length_toList]
    rw [hcl]
    omega
  have hg1 : (w.drew.setRow g A1).heap[g]? = some (.cells A1 43 (0, 0)) := setRow_heap w.drew g cur A1 _ _ hg
  have hv1 : (w.drew.setRow g A1).heap[vb]? = some (.cells vs.toArray 43 (0, 0)) := (setRow_other w.drew g vb A1 hvb).trans hv
  obtain ⟨W1, hW1⟩ : ∃ W1, W1 = w.drew.setRow g A1 := ⟨_, rfl⟩
  rw [← hW1] at hg1 hv1 hcp1
  have hm1 : Mod (fun b => b = g) w W1 := by
    rw [hW1]
    exact (Mod.of_below (Below.drew (Below.refl _ _))).trans (mod_setRowS _ _ _)
  obtain ⟨A2, hA2⟩ : ∃ A2 : Array Value, A2 = (A1.toList.take (i * 6) ++ vs ++ A1.toList.drop (i * 6 + vs.length)).toArray := ⟨_, rfl⟩
  have hcp2 : ∀ (W : World), W.heap[g]? = some (.cells A1 43 (0, 0)) → W.heap[vb]? = some (.cells vs.toArray 43 (0, 0)) → ∀ ty dc, (Builtin.copy_ #[31, 31] ty #[.slice (some ⟨g, i * 6, none⟩) (n + 1 - i) dc, .slice (some ⟨vb, 0, none⟩) 1 1]).run Try.prog W = .ok (goInt 1) (W.setRow g A2) := fun W hW1 hW2 ty dc => by
    rw [hA2]
    refine run_copyS W _ _ ty 43 6 g (i * 6) (n + 1 - i) dc ⟨vb, 0, none⟩ 1 1 1 A1 43 vs Try.underlying31 hsz hW1 (by simp only [Nat.min_def]; split <;> omega) (by omega) (fun j v hj => ?_) (by rw [hvl, hA1s]; omega) h1v
    rw [addr_addS]
    exact cell_rowS hW2 (by simpa using hj)
  have hfin : A2.size = c * 6 ∧ A2.toList.take ((n + 1) * 6) = cs.take (i * 6) ++ vs ++ cs.drop (i * 6) := by
    have h := shift_rowS (cur := cur.toList) (cs := cs) (vs := vs) (k := i * 6) (m := 6) (by rw [hcl]; omega) (by rw [hcl]; exact ht) (by rw [hcl, Array.length_toList, hcur]; omega) hvl
    rw [hA2, hA1]
    rw [show (i + 1) * 6 = i * 6 + 6 by omega, show (n + 1) * 6 = cs.length + 6 by rw [hcl]; omega]
    refine ⟨?_, h.2⟩
    rw [List.size_toArray]
    have h1 := h.1
    have h2 : cur.toList.length = c * 6 := by rw [Array.length_toList, hcur]
    rw [h2] at h1
    exact h1
  clear hA1 hA2 hW1
  have HF : Hid (A2.size = c * 6 ∧ A2.toList.take ((n + 1) * 6) = cs.take (i * 6) ++ vs ++ cs.drop (i * 6)) := hfin
  clear hfin
  go_enter Try.func54, Try.ntmps54
  go_wp2_with (simp only [hov])
  go_region_law (refine step_copyS rfl (.tmp 73) (.tmp 76) 31 31 rfl _ _ (by simp [Act.eval, Act.put]) (by simp [Act.eval, Act.put]) (hcp1 _ _ _ _ _ (by omega) (by omega)) ?_)
  go_wp2_with (at_builtin; refine wpl_copyS _ rfl _ _ 31 31 rfl _ _ rfl rfl (hcp2 _ hg1 hv1 _ _) ?_)
  go_ret
  refine ⟨rfl, A2, setRow_heap _ g A1 A2 _ _ hg1, HF.out.1, HF.out.2, hm1.trans (mod_setRowS _ _ _)⟩
end Go.Proofs.Yteppnppknfldbaa

