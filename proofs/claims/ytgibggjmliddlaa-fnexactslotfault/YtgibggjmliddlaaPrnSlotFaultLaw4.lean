import Derived.Test.YtgibggjmliddlaaPrnSlotFaultLaw1
import Derived.Deep.RegionHeld3
import Derived.Test.YtgibggjmliddlaaPrnSlotFaultLaw3
import Derived.Deep.DrawnRows

/-
  Cells that are kept. (Written by program: lawgen.py.)
-/
namespace Go.Proofs.Ytgibggjmliddlaa
open Go.RowKit
theorem keepN6 {w w' : World} {a0 : Addr} {x0 : Value} {a1 : Addr} {x1 : Value} {a2 : Addr} {x2 : Value} {a3 : Addr} {x3 : Value} {a4 : Addr} {x4 : Value} {a5 : Addr} {x5 : Value} (hb : Below w.heap.size w w') (g0 : w.cell? a0 = some x0) (g1 : w.cell? a1 = some x1) (g2 : w.cell? a2 = some x2) (g3 : w.cell? a3 = some x3) (g4 : w.cell? a4 = some x4) (g5 : w.cell? a5 = some x5) : Below w.heap.size w w' ∧ w'.cell? a0 = some x0 ∧ w'.cell? a1 = some x1 ∧ w'.cell? a2 = some x2 ∧ w'.cell? a3 = some x3 ∧ w'.cell? a4 = some x4 ∧ w'.cell? a5 = some x5 :=
  ⟨hb, cell_keep hb g0, cell_keep hb g1, cell_keep hb g2, cell_keep hb g3, cell_keep hb g4, cell_keep hb g5⟩
theorem keepN12 {w w' : World} {a0 : Addr} {x0 : Value} {a1 : Addr} {x1 : Value} {a2 : Addr} {x2 : Value} {a3 : Addr} {x3 : Value} {a4 : Addr} {x4 : Value} {a5 : Addr} {x5 : Value} {a6 : Addr} {x6 : Value} {a7 : Addr} {x7 : Value} {a8 : Addr} {x8 : Value} {a9 : Addr} {x9 : Value} {a10 : Addr} {x10 : Value} {a11 : Addr} {x11 : Value} (hb : Below w.heap.size w w') (g0 : w.cell? a0 = some x0) (g1 : w.cell? a1 = some x1) (g2 : w.cell? a2 = some x2) (g3 : w.cell? a3 = some x3) (g4 : w.cell? a4 = some x4) (g5 : w.cell? a5 = some x5) (g6 : w.cell? a6 = some x6) (g7 : w.cell? a7 = some x7) (g8 : w.cell? a8 = some x8) (g9 : w.cell? a9 = some x9) (g10 : w.cell? a10 = some x10) (g11 : w.cell? a11 = some x11) : Below w.heap.size w w' ∧ w'.cell? a0 = some x0 ∧ w'.cell? a1 = some x1 ∧ w'.cell? a2 = some x2 ∧ w'.cell? a3 = some x3 ∧ w'.cell? a4 = some x4 ∧ w'.cell? a5 = some x5 ∧ w'.cell? a6 = some x6 ∧ w'.cell? a7 = some x7 ∧ w'.cell? a8 = some x8 ∧ w'.cell? a9 = some x9 ∧ w'.cell? a10 = some x10 ∧ w'.cell? a11 = some x11 :=
  ⟨hb, cell_keep hb g0, cell_keep hb g1, cell_keep hb g2, cell_keep hb g3, cell_keep hb g4, cell_keep hb g5, cell_keep hb g6, cell_keep hb g7, cell_keep hb g8, cell_keep hb g9, cell_keep hb g10, cell_keep hb g11⟩
end Go.Proofs.Ytgibggjmliddlaa

/-
  A region that draws its order and ends in one store (number t): what is asked of the world (S) need not hold behind that store.
-/
namespace Go.Proofs.Ytgibggjmliddlaa
open Go.RowKit

section
variable {P : Program} {ops : Array Oper} {Q : Exit → Act → World → Prop} {md : Region.Mode} {S : World → Prop} {t : Nat}

def wpUpto (P : Program) (md : Region.Mode) (ops : Array Oper) (Q : Exit → Act → World → Prop) (S : World → Prop) (t : Nat) : Nat → Array Bool → Act → World → Prop
  | 0, listed, a, w => Region.ready md ops listed = [] ∧ Q .normal a w
  | f + 1, listed, a, w => (Region.ready md ops listed = [] → Q .normal a w) ∧ ∀ i ∈ Region.ready md ops listed, wpOp P ops Q i (fun a' w' => (i ≠ t → S w') ∧ wpUpto P md ops Q S t f (listed.setIfInBounds i true) a' w') a w
theorem upto_any : ∀ (f : Nat) (listed : Array Bool) (a : Act) (w : World), wpUpto P md ops Q S t f listed a w → wpAny P md ops Q f listed a w
  | 0, _, _, _, h => h
  | f + 1, _, _, _, h => ⟨h.1, fun i hi => wpOp_mono (fun _ _ h' => upto_any f _ _ _ h'.2) (h.2 i hi)⟩
theorem upto_step {i : Nat} {o : Oper} {f : Nat} {listed : Array Bool} {a : Act} {w : World} (hr : Region.ready md ops listed = [i]) (hi : ops[i]? = some o)
    (h : ∀ K : Act → World → Prop, (∀ a' w', (i ≠ t → S w') → wpUpto P md ops Q S t f (listed.setIfInBounds i true) a' w' → K a' w') → if Region.wanted o (yielded ops a.tmps) = true then Oper.wp P o a w K Q else K (a.put o.dst undef) w) :
    wpUpto P md ops Q S t (f + 1) listed a w := by
  refine ⟨fun h0 => (by rw [hr] at h0; cases h0), fun j hj => ?_⟩
  rw [hr] at hj
  have e : j = i := by simpa using hj
  subst e
  have h1 := h (fun a' w' => (j ≠ t → S w') ∧ wpUpto P md ops Q S t f (listed.setIfInBounds j true) a' w') (fun _ _ p q => ⟨p, q⟩)
  unfold wpOp
  simp only [hi]
  split
  · rename_i hw
    rw [if_pos hw] at h1
    exact .inl h1
  · rename_i hw
    rw [if_neg hw] at h1
    exact h1
theorem upto_done {listed : Array Bool} {a : Act} {w : World} {f : Nat} (hr : Region.ready md ops listed = []) (h : Q .normal a w) : wpUpto P md ops Q S t f listed a w := by
  cases f with
  | zero => exact ⟨hr, h⟩
  | succ f => exact ⟨fun _ => h, by rw [hr]; simp⟩
theorem region_upto {id : Nat} {a : Act} {w : World} (S : World → Prop) (t : Nat) (hm : P.follows .mixedOrders = true) (hS : S w.drew) (h : S w.drew → wpUpto P .any ops Q S t ops.size (Array.replicate ops.size false) a w.drew) : (Code.region id ops true).wp P Q a w :=
  wp_region_any hm (upto_any _ _ _ _ (h hS))
end

end Go.Proofs.Ytgibggjmliddlaa

/-
  A region that draws its order, none of whose operations breaks what is asked of the world.
-/
namespace Go.Proofs.Ytgibggjmliddlaa
open Go.RowKit

section
variable {P : Program} {ops : Array Oper} {Q : Exit → Act → World → Prop} {md : Region.Mode} {S : World → Prop} {t : Nat}

theorem upto_firstN {i : Nat} {oi : Oper} {v : Value} (hi : ops[i]? = some oi) (hsel : Region.noSelect ops = true) (ht : ops[t]? = none)
    (hQ : ∀ c a w, Q (.panic c) (a.put oi.dst v) w → Q (.panic c) a w) :
    ∀ (f : Nat) (listed : Array Bool) (a : Act) (w : World),
      (∀ j oj, ops[j]? = some oj → j ≠ i → listed.getD j true = false → (∀ e ∈ oj.after, Region.binds md e = true → e.on ≠ i) → oi.apart ops oj = true) →
      i ∈ Region.ready md ops listed → YieldsIf P ops S oi v a → S w →
      wpUpto P md ops Q S t f (listed.setIfInBounds i true) (a.put oi.dst v) w → wpUpto P md ops Q S t (f + 1) listed a w := by
  intro f
  induction f with
  | zero =>
    intro listed a w _ hr hy hS H
    refine ⟨fun h => (by rw [h] at hr; cases hr), fun j hj => ?_⟩
    by_cases hji : j = i
    · subst hji
      exact hy.wpOp hi hS ⟨fun _ => hS, H⟩
    · have hm := ready_mono hj hji
      rw [H.1] at hm
      cases hm
  | succ f ih =>
    intro listed a w hfree hr hy hS H
    refine ⟨fun h => (by rw [h] at hr; cases hr), fun j hj => ?_⟩
    by_cases hji : j = i
    · subst hji
      exact hy.wpOp hi hS ⟨fun _ => hS, H⟩
    · obtain ⟨hjun, oj, hoj, hall⟩ := mem_ready.1 hj
      have hun := (mem_ready.1 hr).1
      have hnl : ¬ listed.getD i false = true := by
        intro h1
        rcases Nat.lt_or_ge i listed.size with h' | h'
        · simp [h'] at hun h1
          rw [hun] at h1
          cases h1
        · simp [Array.getElem?_eq_none h'] at h1
      have hnot : ∀ e ∈ oj.after, Region.binds md e = true → e.on ≠ i := fun e he hb heq => hnl (by rw [← heq]; exact hall e he hb)
      have hjt : j ≠ t := by
        rintro rfl
        rw [ht] at hoj
        cases hoj
      have h1 := H.2 j (ready_mono hj hji)
      have h2 := wpOp_putIf hoj (hfree j oj hoj hji hjun hnot) (fun cs b => Region.noSelect_spec hsel i oi cs b hi) (fun cs b => Region.noSelect_spec hsel j oj cs b hoj) hQ hy h1
      refine wpOp_mono (fun a' w' h3 => ⟨h3.2.1, ih (listed.setIfInBounds j true) a' w' ?_ (ready_mono hr (Ne.symm hji)) h3.1 (h3.2.1 hjt) ?_⟩) h2
      · intro k ok hk hki hunk hno
        refine hfree k ok hk hki ?_ hno
        by_cases hjk : j = k
        · subst hjk; exact hjun
        · rw [getD_set_ne true hjk] at hunk; exact hunk
      · rw [Array.setIfInBounds_comm _ _ hji]
        exact h3.2.2
theorem upto_takeN {i : Nat} {oi : Oper} {v : Value} {f : Nat} {listed : Array Bool} {a : Act} {w : World} (hi : ops[i]? = some oi) (hsel : Region.noSelect ops = true) (ht : ops[t]? = none)
    (hf : Region.free md ops listed i = true) (hr : (Region.ready md ops listed).contains i = true) (hQ : ∀ c a w, Q (.panic c) (a.put oi.dst v) w → Q (.panic c) a w)
    (hwd : Region.wanted oi (yielded ops a.tmps) = true) (hS : S w) (hy : ∀ w, S w → (execOp a.eval oi).run P w = .ok (.value v) w)
    (h : wpUpto P md ops Q S t f (listed.setIfInBounds i true) (a.put oi.dst v) w) : wpUpto P md ops Q S t (f + 1) listed a w :=
  upto_firstN hi hsel ht hQ f listed a w (Region.free_spec hi hf) (by simpa using hr) (Or.inl ⟨hwd, hy⟩) hS h
theorem upto_skipN {i : Nat} {oi : Oper} {f : Nat} {listed : Array Bool} {a : Act} {w : World} (hi : ops[i]? = some oi) (hsel : Region.noSelect ops = true) (ht : ops[t]? = none)
    (hf : Region.free md ops listed i = true) (hr : (Region.ready md ops listed).contains i = true) (hQ : ∀ c a w, Q (.panic c) (a.put oi.dst undef) w → Q (.panic c) a w)
    (hwd : Region.wanted oi (yielded ops a.tmps) = false) (hS : S w)
    (h : ∀ u : Value, wpUpto P md ops Q S t f (listed.setIfInBounds i true) (a.put oi.dst u) w) : wpUpto P md ops Q S t (f + 1) listed a w :=
  upto_firstN hi hsel ht hQ f listed a w (Region.free_spec hi hf) (by simpa using hr) (Or.inr ⟨hwd, rfl⟩) hS (h undef)
end

end Go.Proofs.Ytgibggjmliddlaa

/-
  SlotFault, the specification's.
-/
set_option linter.unusedSimpArgs false
namespace Go.Proofs.Ytgibggjmliddlaa
open Go.RowKit
set_option linter.unusedSectionVars false
variable [DecidableEq Vot] [Inhabited Vot] [DecidableEq Slt] [Inhabited Slt] [DecidableEq Bal] [Inhabited Bal] [DecidableEq Ledg] [Inhabited Ledg] [DecidableEq Leg] [Inhabited Leg]
attribute [local go_sem ↓] Go.wp_at_zero Go.wp_at_succ

set_option maxHeartbeats 1000000 in
theorem l8Last_any (x : Value) (d : Slt) (w : World) (hx : sltR.V w x d) :
    Calls Try.prog 68 #[x] w fun e w' => e = .returned (.agg #[.int .i64 (lastV d.cast d.cast.length).bal, .int .i64 (lastV d.cast d.cast.length).val]) ∧ Below w.heap.size w w' := by
  obtain ⟨u1, rfl, hx⟩ := hx
  obtain ⟨ax, cx, rfl, hcx, hmx, hx⟩ := hx
  unfold maxLen at hmx
  cases hn : d.cast.length with
  | zero =>
    rw [hn] at hcx hx
    clear hx
    rw [lastV_zero]
    go_enter Try.func68, Try.ntmps68
    go_wp2_with fail
    refine (l8None_any _).mono ?_
    rintro e w1 ⟨rfl, hb1⟩
    have hB : Below w.heap.size w w1 := bstep (by (repeat (first | exact Below.refl _ _ | assumption | refine Below.drew ?_ | refine balloc ?_ _ | refine bset ?_ (by simp; omega) _ | refine bset ?_ (by simp) _ | refine bstep ?_ (by assumption)))) hb1
    obtain ⟨c1, f1⟩ := bcell hb1
    go_wp2
    refine bodyPost_ret (v := .agg #[.int .i64 (-1), .int .i64 0]) ?_ rfl ⟨rfl, by (repeat (first | refine bset ?_ (by simp; omega) _ | refine bset ?_ (by simp) _ | refine balloc ?_ _ | assumption))⟩
    simp [results, Try.results68, go_sem, c1]
  | succ m =>
    rw [hn] at hcx hx
    rw [lastV_succ]
    obtain ⟨bx, ox, rfl, g1⟩ := hx m (by omega)
    clear hx
    generalize d.cast.getD m default = l at *
    clear hn
    obtain ⟨g0, g1⟩ := g1
    have v1 : IntKind.i64.wrap (m : Int) = m := wrapId (by omega) (by omega)
    have z5 : bx < w.heap.size := World.block_lt_of_cell? w _ g0
    go_enter Try.func68, Try.ntmps68
    go_wp2
    refine bodyPost_ret (v := .agg #[.int .i64 l.bal, .int .i64 l.val]) ?_ rfl ⟨rfl, by (repeat (first | exact Below.refl _ _ | assumption | refine Below.drew ?_ | refine balloc ?_ _ | refine bset ?_ (by simp; omega) _ | refine bset ?_ (by simp) _ | refine bstep ?_ (by assumption)))⟩
    simp [results, Try.results68, go_sem]
set_option maxHeartbeats 4000000 in
theorem specSlotF_any (x : Value) (d : Slt) (w : World) (hx : sltR.V w x d) :
    Calls Try.prog 25 #[x] w fun e w' => e = .returned (.int .i64 (sltFault d)) ∧ Below w.heap.size w w' := by
  have hX := hx
  obtain ⟨u1, rfl, hx⟩ := hx
  obtain ⟨ax, cx, rfl, hcx, hmx, hx⟩ := hx
  unfold maxLen at hmx
  cases h1 : inB d.con 1 1000000000
  · rw [sltF_range (by simp [sltRange, h1])]
    go_enter Try.func25, Try.ntmps25
    go_wp2_with (first | (go_at_call 66; refine (l1Id_any _ _).mono ?_; rintro e w' ⟨rfl, rfl⟩) | (go_at_call 67; refine (l1In_any _ _ _ _).mono ?_; rintro e w' ⟨rfl, rfl⟩))
    go_ret
    exact ⟨rfl, by (repeat (first | exact Below.refl _ _ | assumption | refine Below.drew ?_ | refine balloc ?_ _ | refine bset ?_ (by simp; omega) _ | refine bset ?_ (by simp) _ | refine bstep ?_ (by assumption)))⟩
  cases h2 : inB d.sh 0 2
  · rw [sltF_range (by simp [sltRange, h2])]
    go_enter Try.func25, Try.ntmps25
    go_wp2_with (first | (go_at_call 66; refine (l1Id_any _ _).mono ?_; rintro e w' ⟨rfl, rfl⟩) | (go_at_call 67; refine (l1In_any _ _ _ _).mono ?_; rintro e w' ⟨rfl, rfl⟩))
    go_ret
    exact ⟨rfl, by (repeat (first | exact Below.refl _ _ | assumption | refine Below.drew ?_ | refine balloc ?_ _ | refine bset ?_ (by simp; omega) _ | refine bset ?_ (by simp) _ | refine bstep ?_ (by assumption)))⟩
  cases h3 : inB d.pr (-1) 1000
  · rw [sltF_range (by simp [sltRange, h3])]
    go_enter Try.func25, Try.ntmps25
    go_wp2_with (first | (go_at_call 66; refine (l1Id_any _ _).mono ?_; rintro e w' ⟨rfl, rfl⟩) | (go_at_call 67; refine (l1In_any _ _ _ _).mono ?_; rintro e w' ⟨rfl, rfl⟩))
    go_ret
    exact ⟨rfl, by (repeat (first | exact Below.refl _ _ | assumption | refine Below.drew ?_ | refine balloc ?_ _ | refine bset ?_ (by simp; omega) _ | refine bset ?_ (by simp) _ | refine bstep ?_ (by assumption)))⟩
  have hR : Hid (sltRange d = true) := by show _ = _; simp [sltRange, h1, h2, h3]
  by_cases h6 : 60 < d.cast.length
  · rw [sltF_many hR.out h6]
    go_enter Try.func25, Try.ntmps25
    go_wp2_with (first | (go_at_call 66; refine (l1Id_any _ _).mono ?_; rintro e w' ⟨rfl, rfl⟩) | (go_at_call 67; refine (l1In_any _ _ _ _).mono ?_; rintro e w' ⟨rfl, rfl⟩))
    go_ret
    exact ⟨rfl, by (repeat (first | exact Below.refl _ _ | assumption | refine Below.drew ?_ | refine balloc ?_ _ | refine bset ?_ (by simp; omega) _ | refine bset ?_ (by simp) _ | refine bstep ?_ (by assumption)))⟩
  obtain ⟨xs, hxs⟩ : ∃ xs, xs = d.cast := ⟨_, rfl⟩
  have HXS : Hid (d.cast = xs) := hxs.symm
  rw [← hxs] at h6 hcx hx hX ⊢
  clear hxs
  obtain ⟨n, hn'⟩ : ∃ n, n = xs.length := ⟨_, rfl⟩
  have HN : Hid (xs.length = n) := hn'.symm
  rw [← hn'] at h6 hcx hx hX ⊢
  clear hn'
  go_enter Try.func25, Try.ntmps25
  go_wp2_with (first | (go_at_call 66; refine (l1Id_any _ _).mono ?_; rintro e w' ⟨rfl, rfl⟩) | (go_at_call 67; refine (l1In_any _ _ _ _).mono ?_; rintro e w' ⟨rfl, rfl⟩))
  go_loopw [3] (fun i w' => ∃ k : Nat, k ≤ n ∧ i = .int .i64 k ∧ scanI (votAt xs) k = 0 ∧ (w'.cell? ⟨w.heap.size, 0, none⟩ = some (.int .i64 d.con) ∧ w'.cell? ⟨w.heap.size, 1, none⟩ = some (.int .i64 d.sh) ∧ w'.cell? ⟨w.heap.size, 2, none⟩ = some (.int .i64 d.pr) ∧ w'.cell? ⟨w.heap.size, 3, none⟩ = some (.int .i64 d.lb) ∧ w'.cell? ⟨w.heap.size, 4, none⟩ = some (.int .i64 d.lv) ∧ w'.cell? ⟨w.heap.size, 5, none⟩ = some (.slice ax n cx)) ∧ Below w.heap.size w w') (fun i _ => n - (intOf i).toNat)
  case atStart => exact ⟨0, Nat.zero_le _, rfl, rfl, ⟨by simp [go_sem], by simp [go_sem], by simp [go_sem], by simp [go_sem], by simp [go_sem], by simp [go_sem]⟩, by (repeat (first | exact Below.refl _ _ | assumption | refine Below.drew ?_ | refine balloc ?_ _ | refine bset ?_ (by simp; omega) _ | refine bset ?_ (by simp) _ | refine bstep ?_ (by assumption)))⟩
  case round =>
    obtain ⟨k, hk, rfl, hs, ⟨c0, c1, c2, c3, c4, c5⟩, hbl⟩ := hrel
    have HS : Hid (scanI (votAt xs) k = 0) := hs
    clear hs
    have z0 : w.heap.size < wr.heap.size := World.block_lt_of_cell? wr _ c0
    by_cases hlt : k < n
    · obtain ⟨bx, ox, rfl, g1⟩ := hx k hlt
      obtain ⟨l, hl⟩ : ∃ l, l = xs.getD k default := ⟨_, rfl⟩
      rw [← hl] at g1
      have HL : Hid (l = xs.getD k default) := hl
      clear hl
      obtain ⟨a1, a2⟩ := votCells_below hbl g1
      cases v1 : inB l.bal 0 1000
      · clear hx
        go_wp2_with (first | (go_at_call 56; refine (l8Ballot_any _ _).mono ?_; rintro e w' ⟨rfl, rfl⟩) | (go_at_call 57; refine (l8Value_any _ _).mono ?_; rintro e w' ⟨rfl, rfl⟩))
        go_ret
        refine ⟨?_, by (repeat (first | exact Below.refl _ _ | assumption | refine Below.drew ?_ | refine balloc ?_ _ | refine bset ?_ (by simp; omega) _ | refine bset ?_ (by simp) _ | refine bstep ?_ (by assumption)))⟩
        rw [sltF_hit (k := k) (c := 3) hR.out (by rw [HXS.out, HN.out]; omega) (by rw [HXS.out, HN.out]; exact hlt) (by rw [HXS.out]; exact HS.out) (by rw [HXS.out]; exact votAt_bad (by rw [← HL.out]; simp [votB, v1])) (by omega)]
        rfl
      cases v2 : inB l.val 1 2
      · clear hx
        go_wp2_with (first | (go_at_call 56; refine (l8Ballot_any _ _).mono ?_; rintro e w' ⟨rfl, rfl⟩) | (go_at_call 57; refine (l8Value_any _ _).mono ?_; rintro e w' ⟨rfl, rfl⟩))
        go_ret
        refine ⟨?_, by (repeat (first | exact Below.refl _ _ | assumption | refine Below.drew ?_ | refine balloc ?_ _ | refine bset ?_ (by simp; omega) _ | refine bset ?_ (by simp) _ | refine bstep ?_ (by assumption)))⟩
        rw [sltF_hit (k := k) (c := 3) hR.out (by rw [HXS.out, HN.out]; omega) (by rw [HXS.out, HN.out]; exact hlt) (by rw [HXS.out]; exact HS.out) (by rw [HXS.out]; exact votAt_bad (by rw [← HL.out]; simp [votB, v2])) (by omega)]
        rfl
      have hok : Hid (votB (xs.getD k default) = true) := by show _ = _; rw [← HL.out]; simp [votB, v1, v2]
      cases k with
      | zero =>
        clear hx
        simp only [Nat.zero_mul, Nat.add_zero] at a1 a2
        go_wp2_with (first | (go_at_call 56; refine (l8Ballot_any _ _).mono ?_; rintro e w' ⟨rfl, rfl⟩) | (go_at_call 57; refine (l8Value_any _ _).mono ?_; rintro e w' ⟨rfl, rfl⟩))
        go_quiet (fail)
        go_wp2
        exact ⟨⟨1, by omega, by go_num, scanI_succ HS.out (votAt_ok hok.out (by rw [lastV_zero]; exact other_none hok.out)), ⟨cell_keep (bdrewN (balloc (Below.refl _ _) _) _) c0, cell_keep (bdrewN (balloc (Below.refl _ _) _) _) c1, cell_keep (bdrewN (balloc (Below.refl _ _) _) _) c2, cell_keep (bdrewN (balloc (Below.refl _ _) _) _) c3, cell_keep (bdrewN (balloc (Below.refl _ _) _) _) c4, cell_keep (bdrewN (balloc (Below.refl _ _) _) _) c5⟩, bdrewN (balloc hbl _) _⟩, by simp [intOf]; omega⟩
      | succ m =>
        obtain ⟨b', o', he, g2⟩ := hx m (by omega)
        simp only [Option.some.injEq, Addr.mk.injEq, and_true] at he
        obtain ⟨rfl, rfl⟩ := he
        obtain ⟨o, ho⟩ : ∃ o, o = xs.getD m default := ⟨_, rfl⟩
        rw [← ho] at g2
        have HO : Hid (o = xs.getD m default) := ho
        clear ho hx
        obtain ⟨d1, d2⟩ := votCells_below hbl g2
        have i1 : (m : Int) < (n : Int) := by omega
        have z5 : bx < wr.heap.size := World.block_lt_of_cell? wr _ d1
        have i2 : m < n := by omega
        have w1 : IntKind.i64.wrap (m : Int) = m := wrapId (by omega) (by omega)
        have hL : Hid (∀ c, votAt xs (m + 1) = c ↔ (if other l o = true then 1 else 0) = c) := by
          intro c
          unfold votAt
          rw [hok.out, lastV_succ, ← HL.out, ← HO.out]
          simp
        by_cases q1 : l.bal < o.bal
        · have e1 : decide (l.bal < o.bal) = true := by simp [q1]
          go_wp2_with (first | (go_at_call 56; refine (l8Ballot_any _ _).mono ?_; rintro e w' ⟨rfl, rfl⟩) | (go_at_call 57; refine (l8Value_any _ _).mono ?_; rintro e w' ⟨rfl, rfl⟩))
          go_quiet (fail)
          go_wp2
          go_ret
          refine ⟨?_, bdrewN (balloc hbl _) _⟩
          rw [sltF_hit (k := m + 1) (c := 1) hR.out (by rw [HXS.out, HN.out]; omega) (by rw [HXS.out, HN.out]; exact hlt) (by rw [HXS.out]; exact HS.out) (by rw [HXS.out]; exact (hL.out 1).2 (by simp [other, q1])) (by omega)]
          rfl
        have e1 : decide (l.bal < o.bal) = false := by simp [q1]
        by_cases q2 : l.bal = o.bal
        · have e2 : (l.bal == o.bal) = true := by simp [q2]
          by_cases q3 : l.val = o.val
          · have e3 : (l.val != o.val) = false := by simp [q3]
            have HQ : Hid (other l o = false) := by show _ = _; simp [other, q2, q3]
            clear q1 q2 q3
            go_wp2_with (first | (go_at_call 56; refine (l8Ballot_any _ _).mono ?_; rintro e w' ⟨rfl, rfl⟩) | (go_at_call 57; refine (l8Value_any _ _).mono ?_; rintro e w' ⟨rfl, rfl⟩))
            go_quiet (fail)
            go_wp2
            exact ⟨⟨m + 1 + 1, by omega, by go_num, scanI_succ HS.out ((hL.out 0).2 (by rw [HQ.out]; rfl)), ⟨cell_keep (bdrewN (balloc (Below.refl _ _) _) _) c0, cell_keep (bdrewN (balloc (Below.refl _ _) _) _) c1, cell_keep (bdrewN (balloc (Below.refl _ _) _) _) c2, cell_keep (bdrewN (balloc (Below.refl _ _) _) _) c3, cell_keep (bdrewN (balloc (Below.refl _ _) _) _) c4, cell_keep (bdrewN (balloc (Below.refl _ _) _) _) c5⟩, bdrewN (balloc hbl _) _⟩, by simp [intOf]; omega⟩
          · have e3 : (l.val != o.val) = true := by simp [q3]
            have HQ : Hid (other l o = true) := by show _ = _; simp [other, q2, q3]
            clear q1 q2 q3
            go_wp2_with (first | (go_at_call 56; refine (l8Ballot_any _ _).mono ?_; rintro e w' ⟨rfl, rfl⟩) | (go_at_call 57; refine (l8Value_any _ _).mono ?_; rintro e w' ⟨rfl, rfl⟩))
            go_quiet (fail)
            go_wp2
            go_ret
            refine ⟨?_, bdrewN (balloc hbl _) _⟩
            rw [sltF_hit (k := m + 1) (c := 1) hR.out (by rw [HXS.out, HN.out]; omega) (by rw [HXS.out, HN.out]; exact hlt) (by rw [HXS.out]; exact HS.out) (by rw [HXS.out]; exact (hL.out 1).2 (by rw [HQ.out]; rfl)) (by omega)]
            rfl
        · have e2 : (l.bal == o.bal) = false := by simp [q2]
          have HQ : Hid (other l o = false) := by show _ = _; simp [other, q1, q2]
          clear q1 q2
          go_wp2_with (first | (go_at_call 56; refine (l8Ballot_any _ _).mono ?_; rintro e w' ⟨rfl, rfl⟩) | (go_at_call 57; refine (l8Value_any _ _).mono ?_; rintro e w' ⟨rfl, rfl⟩))
          go_quiet (fail)
          go_wp2
          exact ⟨⟨m + 1 + 1, by omega, by go_num, scanI_succ HS.out ((hL.out 0).2 (by rw [HQ.out]; rfl)), ⟨cell_keep (bdrewN (balloc (Below.refl _ _) _) _) c0, cell_keep (bdrewN (balloc (Below.refl _ _) _) _) c1, cell_keep (bdrewN (balloc (Below.refl _ _) _) _) c2, cell_keep (bdrewN (balloc (Below.refl _ _) _) _) c3, cell_keep (bdrewN (balloc (Below.refl _ _) _) _) c4, cell_keep (bdrewN (balloc (Below.refl _ _) _) _) c5⟩, bdrewN (balloc hbl _) _⟩, by simp [intOf]; omega⟩
    · have hkn : k = n := by omega
      subst hkn
      have HE : Hid (sltFault d = if (d.lb = (lastV xs k).bal ∧ d.lv = (lastV xs k).val) ∧ d.lb ≤ d.pr then 0 else 1) := by
        show _ = _
        rw [sltF_end hR.out (by rw [HXS.out, HN.out]; omega) (by rw [HXS.out, HN.out]; exact HS.out), HXS.out, HN.out]
      have hLast := fun W h => l8Last_any (.agg #[.int .i64 d.con, .int .i64 d.sh, .int .i64 d.pr, .int .i64 d.lb, .int .i64 d.lv, .slice ax k cx]) d W h
      rw [HXS.out, HN.out] at hLast
      obtain ⟨q, hq⟩ : ∃ q, q = lastV xs k := ⟨_, rfl⟩
      have HQ : Hid (lastV xs k = q) := hq.symm
      rw [← hq] at hLast
      clear hq hx hlt
      have HLast : Hid (∀ W, Below wr.heap.size wr W → Calls Try.prog 68 #[.agg #[.int .i64 d.con, .int .i64 d.sh, .int .i64 d.pr, .int .i64 d.lb, .int .i64 d.lv, .slice ax k cx]] W fun e w' => e = .returned (.agg #[.int .i64 q.bal, .int .i64 q.val]) ∧ Below W.heap.size W w') := fun W h => hLast W (sltR.below hX (bstep hbl h))
      clear hLast hX
      cases he : (decide (d.lb = q.bal) && decide (d.lv = q.val))
      · clear h1 h2 h3
        have heq : ∀ w, (binOp .neq 32 (.agg #[.int .i64 d.lb, .int .i64 d.lv]) (.agg #[.int .i64 q.bal, .int .i64 q.val])).run Try.prog w = .ok (.bool true) w := fun w => by rw [neqVot, he]; rfl
        go_wp2
        refine wp_region_noPanic ?_
        refine region_upto (fun W => Below wr.heap.size wr W ∧ W.cell? ⟨w.heap.size, 0, none⟩ = some (.int .i64 d.con) ∧ W.cell? ⟨w.heap.size, 1, none⟩ = some (.int .i64 d.sh) ∧ W.cell? ⟨w.heap.size, 2, none⟩ = some (.int .i64 d.pr) ∧ W.cell? ⟨w.heap.size, 3, none⟩ = some (.int .i64 d.lb) ∧ W.cell? ⟨w.heap.size, 4, none⟩ = some (.int .i64 d.lv) ∧ W.cell? ⟨w.heap.size, 5, none⟩ = some (.slice ax k cx)) 13 (by kernel_rfl) (keepN6 (by (repeat (first | exact Below.refl _ _ | assumption | refine Below.drew ?_ | refine balloc ?_ _ | refine bset ?_ (by simp; omega) _ | refine bset ?_ (by simp) _ | refine bstep ?_ (by assumption)))) c0 c1 c2 c3 c4 c5) (fun hS => ?_)
        refine upto_takeN (i := 0) (v := ?_) rfl (by kernel_rfl) (by kernel_rfl) (by kernel_rfl) (by kernel_rfl) (fun _ _ _ h => h) (by rfl) hS ?_ ?_
        rotate_left
        · intro wS hSw
          try dsimp only at hSw
          first | (go_simp; done) | (go_simp; with_reducible rfl)
        try simp only [Act.put, List.getElem_toArray, List.getElem_cons_zero, List.getElem_cons_succ, List.setIfInBounds_toArray, List.set_cons_zero, List.set_cons_succ]
        refine upto_takeN (i := 1) (v := ?_) rfl (by kernel_rfl) (by kernel_rfl) (by kernel_rfl) (by kernel_rfl) (fun _ _ _ h => h) (by rfl) hS ?_ ?_
        rotate_left
        · intro wS hSw
          try dsimp only at hSw
          first | (go_simp; done) | (go_simp; with_reducible rfl)
        try simp only [Act.put, List.getElem_toArray, List.getElem_cons_zero, List.getElem_cons_succ, List.setIfInBounds_toArray, List.set_cons_zero, List.set_cons_succ]
        refine upto_takeN (i := 2) (v := ?_) rfl (by kernel_rfl) (by kernel_rfl) (by kernel_rfl) (by kernel_rfl) (fun _ _ _ h => h) (by rfl) hS ?_ ?_
        rotate_left
        · intro wS hSw
          try dsimp only at hSw
          first | (go_simp; done) | (go_simp; with_reducible rfl)
        try simp only [Act.put, List.getElem_toArray, List.getElem_cons_zero, List.getElem_cons_succ, List.setIfInBounds_toArray, List.set_cons_zero, List.set_cons_succ]
        refine upto_step (i := 3) (by kernel_rfl) rfl ?_
        intro K hK
        go_simp
        refine (HLast.out _ hS.1).mono ?_
        rintro e w3 ⟨rfl, hb3⟩
        have hS3 : (fun W => Below wr.heap.size wr W ∧ W.cell? ⟨w.heap.size, 0, none⟩ = some (.int .i64 d.con) ∧ W.cell? ⟨w.heap.size, 1, none⟩ = some (.int .i64 d.sh) ∧ W.cell? ⟨w.heap.size, 2, none⟩ = some (.int .i64 d.pr) ∧ W.cell? ⟨w.heap.size, 3, none⟩ = some (.int .i64 d.lb) ∧ W.cell? ⟨w.heap.size, 4, none⟩ = some (.int .i64 d.lv) ∧ W.cell? ⟨w.heap.size, 5, none⟩ = some (.slice ax k cx)) w3 := ⟨bstep hS.1 hb3, cell_keep hb3 hS.2.1, cell_keep hb3 hS.2.2.1, cell_keep hb3 hS.2.2.2.1, cell_keep hb3 hS.2.2.2.2.1, cell_keep hb3 hS.2.2.2.2.2.1, cell_keep hb3 hS.2.2.2.2.2.2⟩
        refine hK _ _ (fun _ => hS3) ?_
        clear hK K hS hb3
        try simp only [Act.put, List.getElem_toArray, List.getElem_cons_zero, List.getElem_cons_succ, List.setIfInBounds_toArray, List.set_cons_zero, List.set_cons_succ]
        refine upto_takeN (i := 4) (v := (.bool true)) rfl (by kernel_rfl) (by kernel_rfl) (by kernel_rfl) (by kernel_rfl) (fun _ _ _ h => h) (by rfl) hS3 ?_ ?_
        · intro wS hSw
          try dsimp only at hSw
          go_simp
        try simp only [Act.put, List.getElem_toArray, List.getElem_cons_zero, List.getElem_cons_succ, List.setIfInBounds_toArray, List.set_cons_zero, List.set_cons_succ]
        refine upto_takeN (i := 5) (v := (.bool true)) rfl (by kernel_rfl) (by kernel_rfl) (by kernel_rfl) (by kernel_rfl) (fun _ _ _ h => h) (by rfl) hS3 ?_ ?_
        · intro wS hSw
          try dsimp only at hSw
          go_simp
        try simp only [Act.put, List.getElem_toArray, List.getElem_cons_zero, List.getElem_cons_succ, List.setIfInBounds_toArray, List.set_cons_zero, List.set_cons_succ]
        refine upto_skipN (i := 6) rfl (by kernel_rfl) (by kernel_rfl) (by kernel_rfl) (by kernel_rfl) (fun _ _ _ h => h) (by rfl) hS3 (fun q6 => ?_)
        try simp only [Act.put, List.getElem_toArray, List.getElem_cons_zero, List.getElem_cons_succ, List.setIfInBounds_toArray, List.set_cons_zero, List.set_cons_succ]
        refine upto_skipN (i := 7) rfl (by kernel_rfl) (by kernel_rfl) (by kernel_rfl) (by kernel_rfl) (fun _ _ _ h => h) (by rfl) hS3 (fun q7 => ?_)
        try simp only [Act.put, List.getElem_toArray, List.getElem_cons_zero, List.getElem_cons_succ, List.setIfInBounds_toArray, List.set_cons_zero, List.set_cons_succ]
        refine upto_skipN (i := 8) rfl (by kernel_rfl) (by kernel_rfl) (by kernel_rfl) (by kernel_rfl) (fun _ _ _ h => h) (by rfl) hS3 (fun q8 => ?_)
        try simp only [Act.put, List.getElem_toArray, List.getElem_cons_zero, List.getElem_cons_succ, List.setIfInBounds_toArray, List.set_cons_zero, List.set_cons_succ]
        refine upto_skipN (i := 9) rfl (by kernel_rfl) (by kernel_rfl) (by kernel_rfl) (by kernel_rfl) (fun _ _ _ h => h) (by rfl) hS3 (fun q9 => ?_)
        try simp only [Act.put, List.getElem_toArray, List.getElem_cons_zero, List.getElem_cons_succ, List.setIfInBounds_toArray, List.set_cons_zero, List.set_cons_succ]
        refine upto_skipN (i := 10) rfl (by kernel_rfl) (by kernel_rfl) (by kernel_rfl) (by kernel_rfl) (fun _ _ _ h => h) (by rfl) hS3 (fun q10 => ?_)
        try simp only [Act.put, List.getElem_toArray, List.getElem_cons_zero, List.getElem_cons_succ, List.setIfInBounds_toArray, List.set_cons_zero, List.set_cons_succ]
        refine upto_skipN (i := 11) rfl (by kernel_rfl) (by kernel_rfl) (by kernel_rfl) (by kernel_rfl) (fun _ _ _ h => h) (by rfl) hS3 (fun q11 => ?_)
        try simp only [Act.put, List.getElem_toArray, List.getElem_cons_zero, List.getElem_cons_succ, List.setIfInBounds_toArray, List.set_cons_zero, List.set_cons_succ]
        refine upto_takeN (i := 12) (v := (.bool true)) rfl (by kernel_rfl) (by kernel_rfl) (by kernel_rfl) (by kernel_rfl) (fun _ _ _ h => h) (by rfl) hS3 ?_ ?_
        · intro wS hSw
          try dsimp only at hSw
          go_simp
        try simp only [Act.put, List.getElem_toArray, List.getElem_cons_zero, List.getElem_cons_succ, List.setIfInBounds_toArray, List.set_cons_zero, List.set_cons_succ]
        refine upto_done (by kernel_rfl) ?_
        refine NoPanic.normal ?_
        have hB3 := bstep hbl hS3.1
        clear hS3
        go_wp2
        go_ret
        refine ⟨?_, hB3⟩
        rw [HE.out, HQ.out, if_neg (by simp at he; rintro ⟨⟨e1, e2⟩, _⟩; exact he e1 e2)]
        rfl
      · clear h1 h2 h3
        have heq : ∀ w, (binOp .neq 32 (.agg #[.int .i64 d.lb, .int .i64 d.lv]) (.agg #[.int .i64 q.bal, .int .i64 q.val])).run Try.prog w = .ok (.bool false) w := fun w => by rw [neqVot, he]; rfl
        go_wp2
        refine wp_region_noPanic ?_
        refine region_upto (fun W => Below wr.heap.size wr W ∧ W.cell? ⟨w.heap.size, 0, none⟩ = some (.int .i64 d.con) ∧ W.cell? ⟨w.heap.size, 1, none⟩ = some (.int .i64 d.sh) ∧ W.cell? ⟨w.heap.size, 2, none⟩ = some (.int .i64 d.pr) ∧ W.cell? ⟨w.heap.size, 3, none⟩ = some (.int .i64 d.lb) ∧ W.cell? ⟨w.heap.size, 4, none⟩ = some (.int .i64 d.lv) ∧ W.cell? ⟨w.heap.size, 5, none⟩ = some (.slice ax k cx)) 13 (by kernel_rfl) (keepN6 (by (repeat (first | exact Below.refl _ _ | assumption | refine Below.drew ?_ | refine balloc ?_ _ | refine bset ?_ (by simp; omega) _ | refine bset ?_ (by simp) _ | refine bstep ?_ (by assumption)))) c0 c1 c2 c3 c4 c5) (fun hS => ?_)
        refine upto_takeN (i := 0) (v := ?_) rfl (by kernel_rfl) (by kernel_rfl) (by kernel_rfl) (by kernel_rfl) (fun _ _ _ h => h) (by rfl) hS ?_ ?_
        rotate_left
        · intro wS hSw
          try dsimp only at hSw
          first | (go_simp; done) | (go_simp; with_reducible rfl)
        try simp only [Act.put, List.getElem_toArray, List.getElem_cons_zero, List.getElem_cons_succ, List.setIfInBounds_toArray, List.set_cons_zero, List.set_cons_succ]
        refine upto_takeN (i := 1) (v := ?_) rfl (by kernel_rfl) (by kernel_rfl) (by kernel_rfl) (by kernel_rfl) (fun _ _ _ h => h) (by rfl) hS ?_ ?_
        rotate_left
        · intro wS hSw
          try dsimp only at hSw
          first | (go_simp; done) | (go_simp; with_reducible rfl)
        try simp only [Act.put, List.getElem_toArray, List.getElem_cons_zero, List.getElem_cons_succ, List.setIfInBounds_toArray, List.set_cons_zero, List.set_cons_succ]
        refine upto_takeN (i := 2) (v := ?_) rfl (by kernel_rfl) (by kernel_rfl) (by kernel_rfl) (by kernel_rfl) (fun _ _ _ h => h) (by rfl) hS ?_ ?_
        rotate_left
        · intro wS hSw
          try dsimp only at hSw
          first | (go_simp; done) | (go_simp; with_reducible rfl)
        try simp only [Act.put, List.getElem_toArray, List.getElem_cons_zero, List.getElem_cons_succ, List.setIfInBounds_toArray, List.set_cons_zero, List.set_cons_succ]
        refine upto_step (i := 3) (by kernel_rfl) rfl ?_
        intro K hK
        go_simp
        refine (HLast.out _ hS.1).mono ?_
        rintro e w3 ⟨rfl, hb3⟩
        have hS3 : (fun W => Below wr.heap.size wr W ∧ W.cell? ⟨w.heap.size, 0, none⟩ = some (.int .i64 d.con) ∧ W.cell? ⟨w.heap.size, 1, none⟩ = some (.int .i64 d.sh) ∧ W.cell? ⟨w.heap.size, 2, none⟩ = some (.int .i64 d.pr) ∧ W.cell? ⟨w.heap.size, 3, none⟩ = some (.int .i64 d.lb) ∧ W.cell? ⟨w.heap.size, 4, none⟩ = some (.int .i64 d.lv) ∧ W.cell? ⟨w.heap.size, 5, none⟩ = some (.slice ax k cx)) w3 := ⟨bstep hS.1 hb3, cell_keep hb3 hS.2.1, cell_keep hb3 hS.2.2.1, cell_keep hb3 hS.2.2.2.1, cell_keep hb3 hS.2.2.2.2.1, cell_keep hb3 hS.2.2.2.2.2.1, cell_keep hb3 hS.2.2.2.2.2.2⟩
        refine hK _ _ (fun _ => hS3) ?_
        clear hK K hS hb3
        try simp only [Act.put, List.getElem_toArray, List.getElem_cons_zero, List.getElem_cons_succ, List.setIfInBounds_toArray, List.set_cons_zero, List.set_cons_succ]
        refine upto_takeN (i := 4) (v := (.bool false)) rfl (by kernel_rfl) (by kernel_rfl) (by kernel_rfl) (by kernel_rfl) (fun _ _ _ h => h) (by rfl) hS3 ?_ ?_
        · intro wS hSw
          try dsimp only at hSw
          go_simp
        try simp only [Act.put, List.getElem_toArray, List.getElem_cons_zero, List.getElem_cons_succ, List.setIfInBounds_toArray, List.set_cons_zero, List.set_cons_succ]
        refine upto_takeN (i := 5) (v := (.bool false)) rfl (by kernel_rfl) (by kernel_rfl) (by kernel_rfl) (by kernel_rfl) (fun _ _ _ h => h) (by rfl) hS3 ?_ ?_
        · intro wS hSw
          try dsimp only at hSw
          go_simp
        try simp only [Act.put, List.getElem_toArray, List.getElem_cons_zero, List.getElem_cons_succ, List.setIfInBounds_toArray, List.set_cons_zero, List.set_cons_succ]
        refine upto_takeN (i := 6) (v := ?_) rfl (by kernel_rfl) (by kernel_rfl) (by kernel_rfl) (by kernel_rfl) (fun _ _ _ h => h) (by rfl) hS3 ?_ ?_
        rotate_left
        · intro wS hSw
          try dsimp only at hSw
          first | (go_simp; done) | (go_simp; with_reducible rfl)
        try simp only [Act.put, List.getElem_toArray, List.getElem_cons_zero, List.getElem_cons_succ, List.setIfInBounds_toArray, List.set_cons_zero, List.set_cons_succ]
        refine upto_takeN (i := 7) (v := ?_) rfl (by kernel_rfl) (by kernel_rfl) (by kernel_rfl) (by kernel_rfl) (fun _ _ _ h => h) (by rfl) hS3 ?_ ?_
        rotate_left
        · intro wS hSw
          try dsimp only at hSw
          first | (go_simp; done) | (go_simp; with_reducible rfl)
        try simp only [Act.put, List.getElem_toArray, List.getElem_cons_zero, List.getElem_cons_succ, List.setIfInBounds_toArray, List.set_cons_zero, List.set_cons_succ]
        refine upto_takeN (i := 8) (v := ?_) rfl (by kernel_rfl) (by kernel_rfl) (by kernel_rfl) (by kernel_rfl) (fun _ _ _ h => h) (by rfl) hS3 ?_ ?_
        rotate_left
        · intro wS hSw
          try dsimp only at hSw
          first | (go_simp; done) | (go_simp; with_reducible rfl)
        try simp only [Act.put, List.getElem_toArray, List.getElem_cons_zero, List.getElem_cons_succ, List.setIfInBounds_toArray, List.set_cons_zero, List.set_cons_succ]
        refine upto_takeN (i := 9) (v := ?_) rfl (by kernel_rfl) (by kernel_rfl) (by kernel_rfl) (by kernel_rfl) (fun _ _ _ h => h) (by rfl) hS3 ?_ ?_
        rotate_left
        · intro wS hSw
          try dsimp only at hSw
          first | (go_simp; done) | (go_simp; with_reducible rfl)
        try simp only [Act.put, List.getElem_toArray, List.getElem_cons_zero, List.getElem_cons_succ, List.setIfInBounds_toArray, List.set_cons_zero, List.set_cons_succ]
        refine upto_takeN (i := 10) (v := ?_) rfl (by kernel_rfl) (by kernel_rfl) (by kernel_rfl) (by kernel_rfl) (fun _ _ _ h => h) (by rfl) hS3 ?_ ?_
        rotate_left
        · intro wS hSw
          try dsimp only at hSw
          first | (go_simp; done) | (go_simp; with_reducible rfl)
        try simp only [Act.put, List.getElem_toArray, List.getElem_cons_zero, List.getElem_cons_succ, List.setIfInBounds_toArray, List.set_cons_zero, List.set_cons_succ]
        refine upto_takeN (i := 11) (v := ?_) rfl (by kernel_rfl) (by kernel_rfl) (by kernel_rfl) (by kernel_rfl) (fun _ _ _ h => h) (by rfl) hS3 ?_ ?_
        rotate_left
        · intro wS hSw
          try dsimp only at hSw
          first | (go_simp; done) | (go_simp; with_reducible rfl)
        try simp only [Act.put, List.getElem_toArray, List.getElem_cons_zero, List.getElem_cons_succ, List.setIfInBounds_toArray, List.set_cons_zero, List.set_cons_succ]
        refine upto_takeN (i := 12) (v := ?_) rfl (by kernel_rfl) (by kernel_rfl) (by kernel_rfl) (by kernel_rfl) (fun _ _ _ h => h) (by rfl) hS3 ?_ ?_
        rotate_left
        · intro wS hSw
          try dsimp only at hSw
          first | (go_simp; done) | (go_simp; with_reducible rfl)
        try simp only [Act.put, List.getElem_toArray, List.getElem_cons_zero, List.getElem_cons_succ, List.setIfInBounds_toArray, List.set_cons_zero, List.set_cons_succ]
        refine upto_done (by kernel_rfl) ?_
        refine NoPanic.normal ?_
        have hB3 := bstep hbl hS3.1
        clear hS3
        go_wp2
        · rename_i hle
          go_ret
          refine ⟨?_, hB3⟩
          rw [HE.out, HQ.out, if_neg (by rintro ⟨_, h⟩; omega)]
          rfl
        · rename_i hle
          go_ret
          refine ⟨?_, hB3⟩
          simp at he
          rw [HE.out, HQ.out, if_pos ⟨he, by omega⟩]
          rfl
end Go.Proofs.Ytgibggjmliddlaa

