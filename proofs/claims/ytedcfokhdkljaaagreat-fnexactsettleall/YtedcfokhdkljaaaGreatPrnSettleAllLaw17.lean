import Derived.Test.YtedcfokhdkljaaaGreatPrnSettleAllLaw16
import Derived.Test.YtedcfokhdkljaaaGreatPrnSettleAllLaw1
import Derived.Test.YtedcfokhdkljaaaGreatPrnSettleAllLaw3
import Derived.Test.YtedcfokhdkljaaaGreatPrnSettleAllLaw10
import Derived.Deep.RegionHeld3
import Derived.Deep.DrawnRows

/-
  Rows of int64: the uniform forms. (Written by program: nest.py.)
-/
namespace Go.Proofs.YtedcfokhdkljaaaGreat
open Go.RowKit
set_option linter.unusedSectionVars false
variable [DecidableEq Leg] [Inhabited Leg]
attribute [local go_sem ↓] Go.wp_at_zero Go.wp_at_succ

def intsR : Rep (List Int) := fRep 2 1 intsC IntsV IntsV_below IntsV_of_owns
def wtInts (xs : List Int) : Nat := xs.length
def cntInts (xs : List Int) : Nat := xs.length
def mkInts (k : Int) (xs : List Int) : List Int := marksI k xs.length
theorem ints_form {w : World} {v : Value} {xs : List Int} (h : intsR.V w v xs) : ∃ a c, v = .slice a xs.length c := by
  obtain ⟨a, c, rfl, _⟩ := h
  exact ⟨_, _, rfl⟩
theorem ints_cnt (d : List Int) : cntInts d ≤ 1 * wtInts d := by unfold cntInts wtInts; omega
theorem eqInt64S_u (x y : Value) (d d' : List Int) (w : World) (hx : intsR.V w x d) (hy : intsR.V w y d') :
    Calls Tryz.prog 28 #[x, y] w fun e w' => e = .returned (.bool (decide (d = d'))) ∧ Below w.heap.size w w' := eqInt64S_any x y d d' w hx hy
theorem markInt64S_u (v : Value) (d : List Int) (base : Nat) (F : Nat → Prop) (k : Int) (w : World) (ho : intsR.O w base F v d) (hw : wtInts d ≤ 1048576) (hn : k + cntInts d ≤ 1073741824) (hk0 : 0 ≤ k) :
    Calls Tryz.prog 33 #[v, .int .i64 k] w fun r w' => r = .returned (.int .i64 (k + cntInts d)) ∧ intsR.O w' base F v (mkInts k d) ∧ Mod F w w' := by
  refine (markInt64S_any v d.length _ base _ k w ho.1 hw hk0 (by omega)).mono ?_
  rintro e w' ⟨rfl, h1, h2⟩
  refine ⟨by simp [cntInts], ⟨?_, ho.2⟩, by rw [ho.2]; exact Mod.of_grown h2⟩
  unfold mkInts
  rw [length_marksI]
  exact h1
theorem heldInt64S_u (v : Value) (d : List Int) (k : Int) (w : World) (hv : intsR.V w v (mkInts k d)) (hw : wtInts d ≤ 1048576) (hn : k + cntInts d ≤ 1073741824) (hk0 : 0 ≤ k) :
    Calls Tryz.prog 34 #[v, .int .i64 k] w fun r w' => r = .returned (.int .i64 (k + cntInts d)) ∧ Below w.heap.size w w' := by
  refine (heldInt64S_any v d.length k w hv hw hk0 (by omega)).mono ?_
  rintro e w' ⟨rfl, rfl⟩
  exact ⟨by simp [cntInts], Below.refl _ _⟩
end Go.Proofs.YtedcfokhdkljaaaGreat

/-
  OutcomesResult. (Written by program: nest.py.)
-/
namespace Go.Proofs.YtedcfokhdkljaaaGreat
open Go.RowKit
set_option linter.unusedSectionVars false
variable [DecidableEq Leg] [Inhabited Leg] [DecidableEq Bal] [Inhabited Bal] [DecidableEq Ledg] [Inhabited Ledg]
attribute [local go_sem ↓] Go.wp_at_zero Go.wp_at_succ

set_option linter.unusedSimpArgs false

structure OutcR where
  code : Int
  outcomes : List Int
  ledger : Ledg
variable [DecidableEq OutcR] [Inhabited OutcR]

def outcRR : Rep OutcR where
  V := fun w v x => ∃ u1 u2_1, v = .agg #[.int .i64 x.code, u1, u2_1] ∧ intsR.V w u1 x.outcomes ∧ ledgR.V w (.agg #[u2_1]) x.ledger
  O := fun w base F v x => ∃ u1 u2_1 F1 F2, v = .agg #[.int .i64 x.code, u1, u2_1] ∧ intsR.O w base F1 u1 x.outcomes ∧ ledgR.O w base F2 (.agg #[u2_1]) x.ledger ∧ (∀ b, F1 b → ¬ F2 b) ∧ (∀ b, F b ↔ (F1 b ∨ F2 b))
  below := fun h hb => by
    obtain ⟨u1, u2_1, rfl, h1, h2⟩ := h
    exact ⟨u1, u2_1, rfl, intsR.below h1 hb, ledgR.below h2 hb⟩
  ofO := fun h => by
    obtain ⟨u1, u2_1, F1, F2, rfl, h1, h2, _⟩ := h
    exact ⟨u1, u2_1, rfl, intsR.ofO h1, ledgR.ofO h2⟩
  mod := fun h hm hd => by
    obtain ⟨u1, u2_1, F1, F2, rfl, h1, h2, s12, hF⟩ := h
    exact ⟨u1, u2_1, F1, F2, rfl, intsR.mod h1 hm (fun b hb => hd b ((hF b).2 (.inl hb))), ledgR.mod h2 hm (fun b hb => hd b ((hF b).2 (.inr hb))), s12, hF⟩
  rng := fun h b hb => by
    obtain ⟨u1, u2_1, F1, F2, rfl, h1, h2, s12, hF⟩ := h
    rcases (hF b).1 hb with hb | hb
    · exact intsR.rng h1 b hb
    · exact ledgR.rng h2 b hb
  base := fun h hb => by
    obtain ⟨u1, u2_1, F1, F2, rfl, h1, h2, s12, hF⟩ := h
    exact ⟨u1, u2_1, F1, F2, rfl, intsR.base h1 hb, ledgR.base h2 hb, s12, hF⟩
def wtOutcR (x : OutcR) : Nat := wtInts x.outcomes + wtLedg x.ledger
def cntOutcR (x : OutcR) : Nat := cntInts x.outcomes + cntLedg x.ledger
def mkOutcR (k : Int) (x : OutcR) : OutcR := { x with outcomes := mkInts k x.outcomes, ledger := mkLedg (k + cntInts x.outcomes) x.ledger }
theorem outcR_form {w : World} {v : Value} {x : OutcR} (h : outcRR.V w v x) : ∃ a1 a2_1 c1 c2_1, v = .agg #[.int .i64 x.code, .slice a1 x.outcomes.length c1, .slice a2_1 x.ledger.shards.length c2_1] := by
  obtain ⟨u1, u2_1, rfl, h1, h2⟩ := h
  obtain ⟨a1, c1, rfl⟩ := ints_form h1
  obtain ⟨a2_1, c2_1, e2⟩ := ledg_form h2
  simp only [Value.agg.injEq, Array.mk.injEq, List.cons.injEq, and_true] at e2
  obtain rfl := e2
  exact ⟨_, _, _, _, rfl⟩
theorem outcR_cnt (d : OutcR) : cntOutcR d ≤ 3 * wtOutcR d := by
  unfold cntOutcR wtOutcR
  have q1 := ints_cnt d.outcomes
  have q2 := ledg_cnt d.ledger
  omega
set_option maxHeartbeats 1000000 in
theorem eqOutcomesResult_u (x y : Value) (d d' : OutcR) (w : World) (hx : outcRR.V w x d) (hy : outcRR.V w y d') :
    Calls Tryz.prog 10 #[x, y] w fun e w' => e = .returned (.bool (decide (d = d'))) ∧ Below w.heap.size w w' := by
  obtain ⟨u1, u2_1, rfl, h1, h2⟩ := hx
  obtain ⟨v1, v2_1, rfl, k1, k2⟩ := hy
  obtain ⟨code, outcomes, ledger⟩ := d
  obtain ⟨code', outcomes', ledger'⟩ := d'
  dsimp only at h1 k1 h2 k2
  go_enter Tryz.func10, Tryz.ntmps10
  go_wp2_with fail
  all_goals try (go_ret; exact ⟨by simp_all, by (repeat (first | exact Below.refl _ _ | assumption | refine Below.drew ?_ | refine balloc ?_ _ | refine bset ?_ (by simp; omega) _ | refine bset ?_ (by simp) _ | refine bstep ?_ (by assumption)))⟩)
  refine (eqInt64S_u _ _ outcomes outcomes' _ (intsR.below h1 (by (repeat (first | exact Below.refl _ _ | assumption | refine Below.drew ?_ | refine balloc ?_ _ | refine bset ?_ (by simp; omega) _ | refine bset ?_ (by simp) _ | refine bstep ?_ (by assumption))))) (intsR.below k1 (by (repeat (first | exact Below.refl _ _ | assumption | refine Below.drew ?_ | refine balloc ?_ _ | refine bset ?_ (by simp; omega) _ | refine bset ?_ (by simp) _ | refine bstep ?_ (by assumption)))))).mono ?_
  rintro e w1 ⟨rfl, b1⟩
  have x0 : w1.cell? ⟨w.heap.size, 0, none⟩ = some (.int .i64 code) := cell_keep b1 (by simp [go_sem])
  have x1 : w1.cell? ⟨w.heap.size, 1, none⟩ = some (u1) := cell_keep b1 (by simp [go_sem])
  have x2 : w1.cell? ⟨w.heap.size, 2, none⟩ = some (u2_1) := cell_keep b1 (by simp [go_sem])
  have y0 : w1.cell? ⟨w.heap.size + 1, 0, none⟩ = some (.int .i64 code') := cell_keep b1 (by simp [go_sem])
  have y1 : w1.cell? ⟨w.heap.size + 1, 1, none⟩ = some (v1) := cell_keep b1 (by simp [go_sem])
  have y2 : w1.cell? ⟨w.heap.size + 1, 2, none⟩ = some (v2_1) := cell_keep b1 (by simp [go_sem])
  go_wp2_with fail
  all_goals try (go_ret; exact ⟨by simp_all, by (repeat (first | exact Below.refl _ _ | assumption | refine Below.drew ?_ | refine balloc ?_ _ | refine bset ?_ (by simp; omega) _ | refine bset ?_ (by simp) _ | refine bstep ?_ (by assumption)))⟩)
  refine (eqLedger_u _ _ ledger ledger' _ (ledgR.below h2 (by (repeat (first | exact Below.refl _ _ | assumption | refine Below.drew ?_ | refine balloc ?_ _ | refine bset ?_ (by simp; omega) _ | refine bset ?_ (by simp) _ | refine bstep ?_ (by assumption))))) (ledgR.below k2 (by (repeat (first | exact Below.refl _ _ | assumption | refine Below.drew ?_ | refine balloc ?_ _ | refine bset ?_ (by simp; omega) _ | refine bset ?_ (by simp) _ | refine bstep ?_ (by assumption)))))).mono ?_
  rintro e w2 ⟨rfl, b2⟩
  go_wp2
  all_goals
    go_ret
    exact ⟨by simp_all, by (repeat (first | exact Below.refl _ _ | assumption | refine Below.drew ?_ | refine balloc ?_ _ | refine bset ?_ (by simp; omega) _ | refine bset ?_ (by simp) _ | refine bstep ?_ (by assumption)))⟩
set_option maxHeartbeats 1000000 in
theorem markOutcomesResult_u (v : Value) (d : OutcR) (base : Nat) (F : Nat → Prop) (k : Int) (w : World) (ho : outcRR.O w base F v d) (hw : wtOutcR d ≤ 1048576) (hn : k + cntOutcR d ≤ 1073741824) (hk0 : 0 ≤ k) :
    Calls Tryz.prog 15 #[v, .int .i64 k] w fun r w' => r = .returned (.int .i64 (k + cntOutcR d)) ∧ outcRR.O w' base F v (mkOutcR k d) ∧ Mod F w w' := by
  obtain ⟨u1, u2_1, F1, F2, rfl, h1, h2, s12, hF⟩ := ho
  unfold wtOutcR at hw
  unfold cntOutcR at hn ⊢
  have HF : Hid (∀ b, F b ↔ (F1 b ∨ F2 b)) := hF
  clear hF
  go_enter Tryz.func15, Tryz.ntmps15
  go_wp2_with fail
  refine (markInt64S_u _ d.outcomes base F1 k _ (intsR.alloc h1 _) (by omega) (by omega) (by omega)).mono ?_
  rintro e w1 ⟨rfl, r1, m1⟩
  have h2' := ledgR.mod (ledgR.alloc h2 _) m1 (fun b p q => s12 b q p)
  have x0 : w1.cell? ⟨w.heap.size, 0, none⟩ = some (.int .i64 d.code) := m1.cell (by simp [go_sem]) (fun hf => by have := intsR.rng h1 _ hf; dsimp only at this; omega)
  have x1 : w1.cell? ⟨w.heap.size, 1, none⟩ = some (u1) := m1.cell (by simp [go_sem]) (fun hf => by have := intsR.rng h1 _ hf; dsimp only at this; omega)
  have x2 : w1.cell? ⟨w.heap.size, 2, none⟩ = some (u2_1) := m1.cell (by simp [go_sem]) (fun hf => by have := intsR.rng h1 _ hf; dsimp only at this; omega)
  go_wp2_with fail
  refine (markLedger_u _ d.ledger base F2 (k + cntInts d.outcomes) _ h2' (by omega) (by omega) (by omega)).mono ?_
  rintro e w2 ⟨rfl, r2, m2⟩
  replace r1 := intsR.mod r1 m2 (fun b p q => s12 b p q)
  go_wp2
  go_ret
  refine ⟨?_, ⟨_, _, F1, F2, rfl, r1, r2, s12, HF.out⟩, (((Mod.refl F w).alloc _).trans (m1.mono (fun b hb => (HF.out b).2 (.inl hb)))).trans (m2.mono (fun b hb => (HF.out b).2 (.inr hb)))⟩
  simp
  try omega
set_option maxHeartbeats 1000000 in
theorem heldOutcomesResult_u (v : Value) (d : OutcR) (k : Int) (w : World) (hv : outcRR.V w v (mkOutcR k d)) (hw : wtOutcR d ≤ 1048576) (hn : k + cntOutcR d ≤ 1073741824) (hk0 : 0 ≤ k) :
    Calls Tryz.prog 16 #[v, .int .i64 k] w fun r w' => r = .returned (.int .i64 (k + cntOutcR d)) ∧ Below w.heap.size w w' := by
  obtain ⟨u1, u2_1, rfl, h1, h2⟩ := hv
  unfold wtOutcR at hw
  unfold cntOutcR at hn ⊢
  go_enter Tryz.func16, Tryz.ntmps16
  go_wp2_with fail
  refine (heldInt64S_u _ d.outcomes k _ (intsR.below h1 (by (repeat (first | exact Below.refl _ _ | assumption | refine Below.drew ?_ | refine balloc ?_ _ | refine bset ?_ (by simp; omega) _ | refine bset ?_ (by simp) _ | refine bstep ?_ (by assumption))))) (by omega) (by omega) (by omega)).mono ?_
  rintro e w1 ⟨rfl, b1⟩
  have x0 : w1.cell? ⟨w.heap.size, 0, none⟩ = some (.int .i64 d.code) := cell_keep b1 (by simp [go_sem, mkOutcR])
  have x1 : w1.cell? ⟨w.heap.size, 1, none⟩ = some (u1) := cell_keep b1 (by simp [go_sem, mkOutcR])
  have x2 : w1.cell? ⟨w.heap.size, 2, none⟩ = some (u2_1) := cell_keep b1 (by simp [go_sem, mkOutcR])
  go_wp2_with fail
  refine (heldLedger_u _ d.ledger (k + cntInts d.outcomes) _ (ledgR.below h2 (by (repeat (first | exact Below.refl _ _ | assumption | refine Below.drew ?_ | refine balloc ?_ _ | refine bset ?_ (by simp; omega) _ | refine bset ?_ (by simp) _ | refine bstep ?_ (by assumption))))) (by omega) (by omega) (by omega)).mono ?_
  rintro e w2 ⟨rfl, b2⟩
  go_wp2
  go_ret
  refine ⟨?_, by (repeat (first | exact Below.refl _ _ | assumption | refine Below.drew ?_ | refine balloc ?_ _ | refine bset ?_ (by simp; omega) _ | refine bset ?_ (by simp) _ | refine bstep ?_ (by assumption)))⟩
  simp
  try omega
end Go.Proofs.YtedcfokhdkljaaaGreat

/-
  Contracts settled one behind the other: what the ledgers are.
-/
namespace Go.Proofs.YtedcfokhdkljaaaGreat
open Go.RowKit
set_option linter.unusedSectionVars false
variable [DecidableEq Rw] [Inhabited Rw] [DecidableEq Bal] [Inhabited Bal] [DecidableEq Ledg] [Inhabited Ledg] [DecidableEq Leg] [Inhabited Leg] [DecidableEq Cont] [Inhabited Cont] [DecidableEq LedgR] [Inhabited LedgR] [DecidableEq OutcR] [Inhabited OutcR]
set_option linter.unusedVariables false
set_option linter.unusedSimpArgs false

theorem hasPlace_no {ls : List Leg} {l : Leg} (h : hasPlace ls l = false) : ∀ x ∈ ls, ¬ (x.sh = l.sh ∧ x.ac = l.ac ∧ x.ast = l.ast) := by
  intro x hx e
  unfold hasPlace at h
  simp only [List.any_eq_false] at h
  have := h x hx
  simp [samePlace, e.1, e.2.1, e.2.2] at this
def Apart (ls : List Leg) : Prop := ls.Pairwise (fun x y => ¬ (x.sh = y.sh ∧ x.ac = y.ac ∧ x.ast = y.ast))
theorem apart_of {ls : List Leg} (h : okTo ls ls.length) : Apart ls := by
  unfold Apart
  rw [List.pairwise_iff_getElem]
  intro i j hi hj hij
  have h1 := hasPlace_no (h j hj).2
  have e : ls.getD j default = ls[j] := by simp [List.getD, hj]
  rw [e] at h1
  exact h1 ls[i] (by rw [List.mem_take_iff_getElem]; exact ⟨i, by omega, rfl⟩)
theorem addLs_at {f : Int → Int → Int → Option Int} (ls : List Leg) : Apart ls → ∀ s a t, ((∀ l ∈ ls, ¬ (l.sh = s ∧ l.ac = a ∧ l.ast = t)) ∧ addLs f ls s a t = f s a t) ∨ ∃ l ∈ ls, (l.sh = s ∧ l.ac = a ∧ l.ast = t) ∧ addLs f ls s a t = if (f l.sh l.ac l.ast).getD 0 + l.am = 0 then none else some ((f l.sh l.ac l.ast).getD 0 + l.am) := by
  refine snoc_ind (P := fun ls => Apart ls → ∀ s a t, ((∀ l ∈ ls, ¬ (l.sh = s ∧ l.ac = a ∧ l.ast = t)) ∧ addLs f ls s a t = f s a t) ∨ ∃ l ∈ ls, (l.sh = s ∧ l.ac = a ∧ l.ast = t) ∧ addLs f ls s a t = if (f l.sh l.ac l.ast).getD 0 + l.am = 0 then none else some ((f l.sh l.ac l.ast).getD 0 + l.am)) ?_ ?_ ls
  · intro _ s a t
    exact .inl ⟨fun l h => (by cases h), rfl⟩
  · intro ls l ih hA s a t
    unfold Apart at hA
    rw [List.pairwise_append] at hA
    obtain ⟨hA1, _, hA3⟩ := hA
    have h1 := ih hA1
    rw [addLs_snoc]
    by_cases e : l.sh = s ∧ l.ac = a ∧ l.ast = t
    · refine .inr ⟨l, by simp, e, ?_⟩
      have h2 : addLs f ls l.sh l.ac l.ast = f l.sh l.ac l.ast := by
        rcases h1 l.sh l.ac l.ast with ⟨_, h⟩ | ⟨x, hx, ex, _⟩
        · exact h
        · exact absurd ex (hA3 x hx l (by simp))
      obtain ⟨rfl, rfl, rfl⟩ := e
      unfold addL
      rw [upd3_same, h2]
    · have h2 : addL (addLs f ls) l s a t = addLs f ls s a t := by
        unfold addL upd3
        rw [if_neg (fun h => e ⟨h.1.symm, h.2.1.symm, h.2.2.symm⟩)]
      rw [h2]
      rcases h1 s a t with ⟨h3, h4⟩ | ⟨x, hx, ex, h4⟩
      · refine .inl ⟨fun y hy => ?_, h4⟩
        rcases List.mem_append.1 hy with hy | hy
        · exact h3 y hy
        · rw [List.mem_singleton.1 hy]; exact e
      · exact .inr ⟨x, List.mem_append_left _ hx, ex, h4⟩
def AmOk (f : Int → Int → Int → Option Int) : Prop := ∀ s a t v, f s a t = some v → 1 ≤ v ∧ v ≤ 1000000000000
theorem amOk_of {g : Ledg} (h : ledFault g = 0) : AmOk (bookF g.shards) := by
  intro s a t v hv
  unfold bookF at hv
  split at hv
  · obtain ⟨x, hx, _, _, rfl⟩ := getB_mem hv
    have hb := (ledOk_of h).2.2 s.toNat (by omega)
    obtain ⟨j, hj, rfl⟩ := List.mem_iff_getElem.1 hx
    have := hb.ok j hj
    have e : ∀ (xs : List Bal) (h : j < xs.length), xs.getD j default = xs[j] := fun xs h => by simp [List.getD, h]
    rw [e _ hj] at this
    exact (balOk_iff.1 this).2
  · cases hv
theorem canL_zero {f : Int → Int → Int → Option Int} {l : Leg} (h : canL f l = 0) : 0 ≤ (f l.sh l.ac l.ast).getD 0 + l.am ∧ (f l.sh l.ac l.ast).getD 0 + l.am ≤ 1000000000000 := by
  unfold canL canV at h
  split at h
  · omega
  · split at h
    · omega
    · omega
theorem balsOk_rise {xs : List Bal} (h : RiseB xs) (hm : ∀ x ∈ xs, 1 ≤ x.am ∧ x.am ≤ 1000000000000) : balFault xs = 0 := by
  have hlen : xs.length ≤ 18 := by
    have h1 := nodup_lt 18 (xs.map (fun x : Bal => (plB x).toNat)) ?_ ?_
    · simpa using h1
    · rw [List.Nodup, List.pairwise_map]
      refine List.Pairwise.imp_of_mem ?_ h.rise
      intro x y hx hy hlt e
      obtain ⟨⟨_, _⟩, _, _⟩ := keyOk_iff.1 (h.key x hx)
      obtain ⟨⟨_, _⟩, _, _⟩ := keyOk_iff.1 (h.key y hy)
      unfold plB at hlt e
      omega
    · intro n hn
      obtain ⟨x, hx, rfl⟩ := List.mem_map.1 hn
      obtain ⟨⟨_, _⟩, _, _⟩ := keyOk_iff.1 (h.key x hx)
      unfold plB
      omega
  unfold balFault
  rw [if_neg (by omega)]
  refine scanI_of (fun k hk => ?_)
  have e : ∀ j, (hj : j < xs.length) → xs.getD j default = xs[j] := fun j hj => by simp [List.getD, hj]
  unfold balAt
  have h1 : balOk (xs.getD k default) = true := by
    rw [e k hk, balOk_iff]
    exact ⟨keyOk_iff.1 (h.key _ (List.getElem_mem hk)), hm _ (List.getElem_mem hk)⟩
  rw [if_pos h1, if_neg]
  rintro ⟨h0, hb⟩
  have hp := List.pairwise_iff_getElem.1 h.rise (k - 1) k (by omega) hk (by omega)
  rw [e k hk, e (k - 1) (by omega), behind_iff (h.key _ (List.getElem_mem _)) (h.key _ (List.getElem_mem _))] at hb
  unfold plB at hp
  omega
theorem settleL_nil (g : List (List Bal)) : settleL g [] = g := by
  apply List.ext_getElem?
  intro i
  by_cases hi : i < g.length
  · have e2 : (settleL g [])[i]? = some ((settleL g []).getD i default) := by simp [List.getD, show i < (settleL g []).length by rw [settleL_len]; exact hi]
    rw [e2, settleL_get g [] hi]
    simp [settleAt, onSh, addB, List.getD, hi]
  · rw [List.getElem?_eq_none (by rw [settleL_len]; omega), List.getElem?_eq_none (by omega)]
theorem settled_ok {gs : List (List Bal)} {c : Cont} (h : canG ⟨gs⟩ c = 0) : ledFault ⟨settleL gs c.legs⟩ = 0 ∧ bookF (settleL gs c.legs) = addLs (bookF gs) c.legs := by
  obtain ⟨h0, h1, h2, h3⟩ := canG_inv h
  obtain ⟨⟨hn0, hn3, h8, _⟩, hr, hk, hs, _⟩ := settle_facts h
  dsimp only at hn0 hn3 hr hs h2 h3 h0
  obtain ⟨_, _, _, hok, _⟩ := cf_inv h1
  have hA := apart_of hok
  have hbook : bookF (settleL gs c.legs) = addLs (bookF gs) c.legs := by
    funext s a t
    by_cases hd : 0 ≤ s ∧ s < (gs.length : Int)
    · obtain ⟨i, rfl⟩ : ∃ i : Nat, s = (i : Int) := ⟨s.toNat, by omega⟩
      have hi : i < gs.length := by omega
      rw [← (settle_book hi (hr i hi) c.legs hk).2]
      unfold bookF
      rw [settleL_len, if_pos hd, Int.toNat_natCast, settleL_get gs c.legs hi]
      rfl
    · rw [book_dom c.legs hs s a t hd]
      unfold bookF
      rw [settleL_len, if_neg hd]
  have ham : AmOk (addLs (bookF gs) c.legs) := by
    intro s a t v hv
    rcases addLs_at (f := bookF gs) c.legs hA s a t with ⟨_, e⟩ | ⟨l, hl, ⟨rfl, rfl, rfl⟩, e⟩
    · rw [e] at hv
      exact amOk_of (g := ⟨gs⟩) h0 s a t v hv
    · rw [e] at hv
      obtain ⟨j, hj, rfl⟩ := List.mem_iff_getElem.1 hl
      have hc := h3 j hj
      have ej : c.legs.getD j default = c.legs[j] := by simp [List.getD, hj]
      rw [ej] at hc
      have := canL_zero hc
      split at hv
      · cases hv
      · simp only [Option.some.injEq] at hv
        omega
  refine ⟨?_, hbook⟩
  unfold ledFault
  dsimp only
  rw [settleL_len, if_neg (by omega)]
  refine scanI_of (fun i hi => ?_)
  unfold ledAt
  dsimp only
  rw [settleL_get gs c.legs hi]
  obtain ⟨r1, r2⟩ := settle_book hi (hr i hi) c.legs hk
  refine balsOk_rise r1 (fun x hx => ?_)
  have hg : getB x.ac x.ast (addB (gs.getD i default) (onSh i c.legs)) = some x.am := by
    have hx' : x ∈ addB (gs.getD i default) (onSh i c.legs) := hx
    generalize addB (gs.getD i default) (onSh i c.legs) = ys at r1 hx'
    clear r2 hx
    induction ys with
    | nil => cases hx'
    | cons y r ih =>
      rcases List.mem_cons.1 hx' with rfl | h
      · exact getB_head _ _
      · by_cases ey : y.ac = x.ac ∧ y.ast = x.ast
        · have := (List.pairwise_cons.1 r1.rise).1 x h
          unfold plB at this
          omega
        · rw [getB_tail ey]
          exact ih r1.tail h
  rw [r2] at hg
  exact ham _ _ _ _ hg
def stepA (g : List (List Bal)) (c : Cont) : List (List Bal) := if canF g.length (bookF g) c = 0 then settleL g c.legs else g
def outA (g : List (List Bal)) (c : Cont) : Int := if canF g.length (bookF g) c = 0 then 1 else 2
def allG (g : List (List Bal)) (cs : List Cont) : List (List Bal) := cs.foldl stepA g
def allO (g : List (List Bal)) : List Cont → List Int
  | [] => []
  | c :: cs => outA g c :: allO (stepA g c) cs
theorem allO_append (g : List (List Bal)) : ∀ (xs ys : List Cont), allO g (xs ++ ys) = allO g xs ++ allO (allG g xs) ys := by
  intro xs
  induction xs generalizing g with
  | nil => intro ys; rfl
  | cons c r ih =>
    intro ys
    show outA g c :: allO (stepA g c) (r ++ ys) = _
    rw [ih]
    rfl
theorem allO_len (g : List (List Bal)) : ∀ (xs : List Cont), (allO g xs).length = xs.length := by
  intro xs
  induction xs generalizing g with
  | nil => rfl
  | cons c r ih => simp [allO, ih]
theorem takeC (cs : List Cont) (k : Nat) (h : k < cs.length) : cs.take (k + 1) = cs.take k ++ [cs.getD k default] := by
  rw [List.take_succ_eq_append_getElem h]
  simp [List.getD, h]
theorem allG_take (g : List (List Bal)) (cs : List Cont) {k : Nat} (h : k < cs.length) : allG g (cs.take (k + 1)) = stepA (allG g (cs.take k)) (cs.getD k default) := by
  rw [takeC cs k h]
  unfold allG
  rw [List.foldl_append]
  rfl
theorem allO_take (g : List (List Bal)) (cs : List Cont) {k : Nat} (h : k < cs.length) : allO g (cs.take (k + 1)) = allO g (cs.take k) ++ [outA (allG g (cs.take k)) (cs.getD k default)] := by
  rw [takeC cs k h, allO_append]
  rfl
theorem canG_F {gs : List (List Bal)} (h : ledFault ⟨gs⟩ = 0) (c : Cont) : canG ⟨gs⟩ c = canF gs.length (bookF gs) c := by
  unfold canG
  rw [if_pos h]
theorem stepA_ok {gs : List (List Bal)} (h : ledFault ⟨gs⟩ = 0) (c : Cont) : ledFault ⟨stepA gs c⟩ = 0 ∧ (stepA gs c).length = gs.length := by
  unfold stepA
  split
  · rename_i hc
    rw [← canG_F h] at hc
    exact ⟨(settled_ok hc).1, settleL_len _ _⟩
  · exact ⟨h, rfl⟩
theorem allG_ok {gs : List (List Bal)} (h : ledFault ⟨gs⟩ = 0) (cs : List Cont) : ledFault ⟨allG gs cs⟩ = 0 ∧ (allG gs cs).length = gs.length := by
  induction cs generalizing gs with
  | nil => exact ⟨h, rfl⟩
  | cons c r ih =>
    obtain ⟨h1, h2⟩ := stepA_ok h c
    obtain ⟨h3, h4⟩ := ih h1
    exact ⟨h3, by rw [← h2]; exact h4⟩
def allD (g : Ledg) (cs : List Cont) : OutcR := if ledFault g = 0 then (if 100 < cs.length then ⟨2, [], ⟨[]⟩⟩ else ⟨0, allO g.shards cs, ⟨allG g.shards cs⟩⟩) else ⟨ledFault g, [], ⟨[]⟩⟩
end Go.Proofs.YtedcfokhdkljaaaGreat

/-
  Rows of Contract. (Written by program: nest.py.)
-/
namespace Go.Proofs.YtedcfokhdkljaaaGreat
open Go.RowKit
set_option linter.unusedSectionVars false
variable [DecidableEq Leg] [Inhabited Leg] [DecidableEq Cont] [Inhabited Cont]
attribute [local go_sem ↓] Go.wp_at_zero Go.wp_at_succ

def contsR : Rep (List Cont) := nRep contR 54 2 lvCont
def wtConts (xs : List Cont) : Nat := wtL wtCont xs
def cntConts (xs : List Cont) : Nat := cntL cntElCont xs
def mkConts (k : Int) (xs : List Cont) : List Cont := mkL mkElCont cntElCont k xs
theorem conts_form {w : World} {v : Value} {xs : List Cont} (h : contsR.V w v xs) : ∃ a c, v = .slice a xs.length c := by
  obtain ⟨a, c, rfl, _⟩ := h
  exact ⟨_, _, rfl⟩
theorem conts_cnt (d : List Cont) : cntConts d ≤ 5 * wtConts d := cntL_le (fun x => cont_cntEl x) d
theorem infoConts : (Tryz.prog.info? 54).map (fun i => (i.zero, i.size, i.bytes)) = some (some (.agg #[.int .i64 0, .slice none 0 0]), 2, 32) := by kernel_rfl
theorem keepConts {w w' : World} {a0 a1 a2 a3 : Addr} {x0 x1 x2 x3 : Value} (hb : Below w.heap.size w w') (g0 : w.cell? a0 = some x0) (g1 : w.cell? a1 = some x1) (g2 : w.cell? a2 = some x2) (g3 : w.cell? a3 = some x3) : Below w.heap.size w w' ∧ w'.cell? a0 = some x0 ∧ w'.cell? a1 = some x1 ∧ w'.cell? a2 = some x2 ∧ w'.cell? a3 = some x3 :=
  ⟨hb, cell_keep hb g0, cell_keep hb g1, cell_keep hb g2, cell_keep hb g3⟩
set_option maxHeartbeats 1000000 in
theorem eqContractS_u (x y : Value) (xs ys : List Cont) (w : World) (hx : contsR.V w x xs) (hy : contsR.V w y ys) :
    Calls Tryz.prog 12 #[x, y] w fun e w' => e = .returned (.bool (decide (xs = ys))) ∧ Below w.heap.size w w' := by
  obtain ⟨ax, cx, rfl, hcx, hmx, hx⟩ := hx
  obtain ⟨ay, cy, rfl, hcy, hmy, hy⟩ := hy
  unfold maxLen at hmx hmy
  by_cases hl : ys.length = xs.length
  · rw [hl] at hcy hy ⊢
    have HL : Hid (ys.length = xs.length) := hl
    clear hl
    generalize hn : xs.length = n at *
    have HN : Hid (xs.length = n) := hn
    clear hn
    go_enter Tryz.func12, Tryz.ntmps12
    go_wp2
    go_loopw [5] (fun i w' => ∃ k : Nat, k ≤ n ∧ i = .int .i64 k ∧ (∀ j, j < k → xs.getD j default = ys.getD j default) ∧ Below w.heap.size w w') (fun i _ => n - (intOf i).toNat)
    case atStart => exact ⟨0, Nat.zero_le _, rfl, fun j h => absurd h (Nat.not_lt_zero _), Below.refl _ _⟩
    case round =>
      obtain ⟨k, hk, rfl, hpre, hbl⟩ := hrel
      have HP : Hid (∀ j, j < k → xs.getD j default = ys.getD j default) := hpre
      clear hpre
      by_cases hlt : k < n
      · obtain ⟨bx, ox, ux, rfl, _, p1, hvx⟩ := hx k hlt
        obtain ⟨b2, oy, uy, rfl, _, p2, hvy⟩ := hy k hlt
        obtain ⟨l1, hl1⟩ : ∃ l, l = xs.getD k default := ⟨_, rfl⟩
        obtain ⟨l2, hl2⟩ : ∃ l, l = ys.getD k default := ⟨_, rfl⟩
        rw [← hl1] at hvx
        rw [← hl2] at hvy
        have H1 : Hid (l1 = xs.getD k default) := hl1
        have H2 : Hid (l2 = ys.getD k default) := hl2
        have hvx' := hvx
        obtain ⟨ux1, rfl, _⟩ := hvx'
        have hvy' := hvy
        obtain ⟨uy1, rfl, _⟩ := hvy'
        have g0 : w.cell? ⟨bx, ox + k * 2, none⟩ = some (.int .i64 l1.id) := p1 0 (by omega)
        have g1 : w.cell? ⟨bx, ox + k * 2 + 1, none⟩ = some (ux1) := p1 1 (by omega)
        have g2 : w.cell? ⟨b2, oy + k * 2, none⟩ = some (.int .i64 l2.id) := p2 0 (by omega)
        have g3 : w.cell? ⟨b2, oy + k * 2 + 1, none⟩ = some (uy1) := p2 1 (by omega)
        clear hl1 hl2 hx hy p1 p2
        go_wp2
        go_region_held3 (fun w' => Below w.heap.size w w' ∧ w'.cell? ⟨bx, ox + k * 2, none⟩ = some (.int .i64 l1.id) ∧ w'.cell? ⟨bx, ox + k * 2 + 1, none⟩ = some (ux1) ∧ w'.cell? ⟨b2, oy + k * 2, none⟩ = some (.int .i64 l2.id) ∧ w'.cell? ⟨b2, oy + k * 2 + 1, none⟩ = some (uy1)) ((refine keepConts ?_ g0 g1 g2 g3; (repeat (first | exact Below.refl _ _ | assumption | refine Below.drew ?_ | refine balloc ?_ _ | refine bstep ?_ (by assumption))))) (first | (go_at_call 30; refine (eqContract_u (.agg #[.int .i64 l1.id, ux1]) (.agg #[.int .i64 l2.id, uy1]) l1 l2 _ (contR.below hvx (by (repeat (first | exact Below.refl _ _ | assumption | refine Below.drew ?_ | refine balloc ?_ _ | refine bstep ?_ (by assumption))))) (contR.below hvy (by (repeat (first | exact Below.refl _ _ | assumption | refine Below.drew ?_ | refine balloc ?_ _ | refine bstep ?_ (by assumption)))))).mono ?_; rintro e w' ⟨rfl, hb1⟩))
        rename_i hH
        have hB := hH.1
        clear hH
        go_wp2
        · rename_i hle
          go_ret
          refine ⟨?_, hB⟩
          have : ¬ xs = ys := fun h => by
            have : l1 = l2 := by rw [H1.out, H2.out, h]
            simp [this] at hle
          simp [this]
        · rename_i hle
          refine ⟨⟨k + 1, by omega, by go_num, fun j hj => ?_, hB⟩, by simp [intOf]; omega⟩
          by_cases hjk : j < k
          · exact HP.out j hjk
          · have : j = k := by omega
            subst this
            rw [← H1.out, ← H2.out]
            simpa using hle
      · go_wp2
        go_ret
        have : k = n := by omega
        subst this
        refine ⟨?_, hbl⟩
        have : xs = ys := rows_eq_of (by rw [HL.out, HN.out]) (by rw [HN.out]; exact HP.out)
        simp [this]
  · go_enter Tryz.func12, Tryz.ntmps12
    have hl' : ((xs.length : Int) == (ys.length : Int)) = false := by simp; omega
    go_wp2
    go_ret
    have : ¬ xs = ys := fun h => hl (by rw [h])
    exact ⟨by simp [this], Below.refl _ _⟩
set_option maxHeartbeats 1000000 in
theorem toContractS_u (x : Value) (xs : List Cont) (w : World) (hx : contsR.V w x xs) (hn : wtConts xs ≤ 1048576) :
    Calls Tryz.prog 8 #[x] w fun e w' => ∃ v F, e = .returned v ∧ contsR.O w' w.heap.size F v xs ∧ Below w.heap.size w w' := by
  obtain ⟨ax, cx, rfl, hcx, hmx, hx⟩ := hx
  unfold maxLen at hmx
  unfold wtConts at hn
  have hlen : xs.length ≤ 1048576 := by unfold wtL at hn; omega
  have hW : ∀ k, k < xs.length → wtCont (xs.getD k default) ≤ 1048576 := fun k hk => (wt_at hn hk).1
  obtain ⟨i0, hi, hz0, hz1, hz2⟩ := info_parts infoConts
  obtain ⟨w1, hmk, hown, hgr⟩ := run_make_full (P := Tryz.prog) w w.heap.size 36 54 i0 _ 2 Tryz.underlying36 hi hz0 hz1 .i64 .i64 xs.length (by rw [hz2]; omega) (by unfold maxLen; omega) (Nat.le_refl _)
  have hbl0 : Below w.heap.size w w1 := (Below.refl _ _).grown hgr (Nat.le_refl _) (fun k h => by cases h)
  clear hn
  generalize hn' : xs.length = n at *
  have HN : Hid (xs.length = n) := hn'
  clear hn'
  go_enter Tryz.func8, Tryz.ntmps8
  go_wp2
  go_loopw [4] (fun i w' => ∃ (k : Nat) (cs : List Value) (us : Nat → Value) (fs : Nat → Nat → Prop), k ≤ n ∧ i = .int .i64 k ∧ PO contR 54 2 lvCont w' w.heap.size (.slice (some ⟨w.heap.size, 0, none⟩) n n) n k (fun i => xs.getD i default) cs us fs ∧ Below w.heap.size w w') (fun i _ => n - (intOf i).toNat)
  case atStart => exact ⟨0, _, fun _ => .int .i64 0, fun _ _ => False, Nat.zero_le _, rfl, ⟨hown, fun i h => by omega, fun i h => by omega, fun i h => by omega, fun i h => by omega, fun i j h => by omega⟩, hbl0⟩
  case round =>
    obtain ⟨k, cs, us, fs, hk, rfl, hp, hbl⟩ := hrel
    clear hown hmk hgr hbl0
    by_cases hlt : k < n
    · obtain ⟨bx, ox, ux, rfl, _, p1, hvx⟩ := hx k hlt
      have hw := hW k hlt
      obtain ⟨l, hl⟩ : ∃ l, l = xs.getD k default := ⟨_, rfl⟩
      rw [← hl] at hvx hw
      have HL : Hid (l = xs.getD k default) := hl
      have hvx' := hvx
      obtain ⟨ux1, rfl, _⟩ := hvx'
      have g0 : w.cell? ⟨bx, ox + k * 2, none⟩ = some (.int .i64 l.id) := p1 0 (by omega)
      replace g0 := cell_keep hbl g0
      have g1 : w.cell? ⟨bx, ox + k * 2 + 1, none⟩ = some (ux1) := p1 1 (by omega)
      replace g1 := cell_keep hbl g1
      clear hx p1 hW hl
      go_wp2_with fail
      refine (toContract_u (.agg #[.int .i64 l.id, ux1]) l _ (contR.below hvx (by (repeat (first | exact Below.refl _ _ | assumption | refine Below.drew ?_ | refine balloc ?_ _ | refine bstep ?_ (by assumption))))) hw).mono ?_
      rintro e wa ⟨v1, F1, rfl, o1, b1⟩
      have ofm1 := contR.ofO o1
      obtain ⟨x1_1, rfl, y1_1⟩ := ofm1
      obtain ⟨a1_1, n1_1, rfl⟩ := legs_form y1_1
      have ho1 := (hp.keep b1).row
      obtain ⟨y0, q0⟩ := owns_some ho1 (k * 2) (by omega)
      obtain ⟨y1, q1⟩ := owns_some ho1 (k * 2 + 1) (by omega)
      have hf := fun j => ho1.frozenAt j
      go_wp2
      have s0 := ho1.stored (k * 2) (.int .i64 l.id)
      have s1 := s0.1.stored (k * 2 + 1) (.slice a1_1 l.legs.length n1_1)
      have hrow : World.ownsRow _ w.heap.size 54 2 (.slice (some ⟨w.heap.size, 0, none⟩) n n) n (setRow cs (k * 2) [.int .i64 l.id, .slice a1_1 l.legs.length n1_1]) := s1.1
      have hcl := hp.row.1
      refine ⟨⟨k + 1, _, _, _, by omega, by go_num, hp.push (u := (.agg #[.int .i64 l.id, .slice a1_1 l.legs.length n1_1])) (F := F1) hbl.size b1 (by rw [← HL.out]; exact o1) rfl hrow ((Mod.of_grown s0.2).trans (Mod.of_grown s1.2)) ?_ ?_, ?_⟩, by simp [intOf]; omega⟩
      · intro i hi j hj
        exact setRow_old _ _ _ _ (.inl (by omega))
      · intro j hj
        exact setRow_new _ _ _ _ (by simp only [List.length_cons, List.length_nil]; omega) hj
      · exact (((bstep hbl b1).setCell (Nat.le_refl _) _).setCell (Nat.le_refl _) _)
    · go_wp2
      go_ret
      have hkn : k = n := by omega
      subst hkn
      have e := HN.out
      subst e
      exact ⟨_, _, rfl, ⟨cs, us, fs, hp, fun b => Iff.rfl⟩, hbl⟩
set_option maxHeartbeats 1000000 in
theorem szContractS_u (x : Value) (xs : List Cont) (left : Int) (w : World) (hx : contsR.V w x xs) (h0 : 0 ≤ left) (h1 : left ≤ 1048576) :
    Calls Tryz.prog 5 #[x, .int .i64 left] w fun e w' => e = .returned (.int .i64 (szLen left (wtConts xs))) ∧ Below w.heap.size w w' := by
  obtain ⟨ax, cx, rfl, hcx, hmx, hx⟩ := hx
  unfold maxLen at hmx
  unfold wtConts wtL
  have HT : Hid (∀ k, k < xs.length → cntTo wtCont (k + 1) xs = cntTo wtCont k xs + wtCont (xs.getD k default) ∧ cntTo wtCont (k + 1) xs ≤ cntTo wtCont xs.length xs) :=
    fun k hk => ⟨cntTo_succ _ k xs hk, cntTo_le _ _ _ _ hk⟩
  generalize xs.length = n at *
  by_cases h : left < n
  · have h' : left - (n : Int) < 0 := by omega
    clear hx
    go_enter Tryz.func5, Tryz.ntmps5
    go_wp2
    go_ret
    exact ⟨by simp only [szLen]; rw [if_pos (by omega)]; rfl, Below.refl _ _⟩
  · have h' : ¬ left - (n : Int) < 0 := by omega
    go_enter Tryz.func5, Tryz.ntmps5
    go_wp2
    go_loopw [1, 5] (fun l i w' => ∃ k : Nat, k ≤ n ∧ i = .int .i64 k ∧ l = .int .i64 (left - n - cntTo wtCont k xs) ∧ 0 ≤ left - n - cntTo wtCont k xs ∧ Below w.heap.size w w') (fun _ i _ => n - (intOf i).toNat)
    case atStart => exact ⟨0, Nat.zero_le _, rfl, by simp [cntTo], by simp [cntTo]; omega, Below.refl _ _⟩
    case round =>
      obtain ⟨k, hk, rfl, rfl, hpos, hbl⟩ := hrel
      by_cases hlt : k < n
      · obtain ⟨bx, ox, ux, rfl, _, p1, hvx⟩ := hx k hlt
        obtain ⟨t2, t3⟩ := HT.out k hlt
        generalize xs.getD k default = l at *
        have hvx' := hvx
        obtain ⟨ux1, rfl, _⟩ := hvx'
        have g0 : w.cell? ⟨bx, ox + k * 2, none⟩ = some (.int .i64 l.id) := p1 0 (by omega)
        replace g0 := cell_keep hbl g0
        have g1 : w.cell? ⟨bx, ox + k * 2 + 1, none⟩ = some (ux1) := p1 1 (by omega)
        replace g1 := cell_keep hbl g1
        generalize hm : wtCont l = m at *
        have HM : Hid (wtCont l = m) := hm
        clear hx p1 hm
        generalize cntTo wtCont k xs = c at *
        go_wp2_with fail
        refine (szContract_u (.agg #[.int .i64 l.id, ux1]) l (left - n - c) _ (contR.below hvx (by (repeat (first | exact Below.refl _ _ | assumption | refine Below.drew ?_ | refine balloc ?_ _ | refine bstep ?_ (by assumption))))) hpos (by omega)).mono ?_
        rintro e wa ⟨rfl, b1⟩
        rw [HM.out]
        go_wp2
        · rename_i hneg
          go_ret
          refine ⟨?_, by (repeat (first | exact Below.refl _ _ | assumption | refine Below.drew ?_ | refine balloc ?_ _ | refine bstep ?_ (by assumption)))⟩
          have : szLen left ↑(n + cntTo wtCont n xs) = -1 := by
            unfold szLen at hneg ⊢
            rw [if_pos (by split at hneg <;> omega)]
          rw [this]
          rfl
        · rename_i hneg
          refine ⟨⟨k + 1, by omega, by go_num, ?_, ?_, by (repeat (first | exact Below.refl _ _ | assumption | refine Below.drew ?_ | refine balloc ?_ _ | refine bstep ?_ (by assumption)))⟩, by simp [intOf]; omega⟩
          · congr 1
            unfold szLen at hneg ⊢
            split at hneg <;> omega
          · unfold szLen at hneg
            split at hneg <;> omega
      · go_wp2
        go_ret
        have hkn : k = n := by omega
        subst hkn
        refine ⟨?_, hbl⟩
        have : szLen left ↑(k + cntTo wtCont k xs) = left - k - cntTo wtCont k xs := by
          unfold szLen
          rw [if_neg (by omega)]
          omega
        rw [this]
        rfl
set_option maxHeartbeats 1000000 in
theorem markContractS_u (v : Value) (xs : List Cont) (base : Nat) (F : Nat → Prop) (k : Int) (w : World) (ho : contsR.O w base F v xs) (hw : wtConts xs ≤ 1048576) (hn : k + cntConts xs ≤ 1073741824) (hk0 : 0 ≤ k) :
    Calls Tryz.prog 14 #[v, .int .i64 k] w fun r w' => r = .returned (.int .i64 (k + cntConts xs)) ∧ contsR.O w' base F v (mkConts k xs) ∧ Mod F w w' := by
  obtain ⟨cs, us, fs, hp, hF⟩ := ho
  have hW : ∀ k, k < xs.length → wtCont (xs.getD k default) ≤ 1048576 := fun k hk => (wt_at hw hk).1
  unfold cntConts cntL at hn ⊢
  have HT : Hid (∀ j, j < xs.length → (mkL mkElCont cntElCont k xs).getD j default = mkElCont (k + cntTo cntElCont j xs) (xs.getD j default) ∧ cntTo cntElCont (j + 1) xs = cntTo cntElCont j xs + cntElCont (xs.getD j default) ∧ cntTo cntElCont (j + 1) xs ≤ cntTo cntElCont xs.length xs) :=
    fun j hj => ⟨getD_mkL _ _ _ _ _ hj, cntTo_succ _ j xs hj, cntTo_le _ _ _ _ hj⟩
  clear hw
  have hcap := hp.len
  obtain ⟨av, cv, hav⟩ := owns_form hp.row
  subst hav
  have HF : Hid (∀ b, F b ↔ ((Value.slice av xs.length cv).ownBlock = some b ∨ ∃ i, i < xs.length ∧ fs i b)) := hF
  have HM : Hid ((mkL mkElCont cntElCont k xs).length = xs.length) := length_mkL _ _ _ _
  clear hF
  generalize hxl : xs.length = n at *
  clear hxl
  go_enter Tryz.func14, Tryz.ntmps14
  go_wp2
  go_loopw [1, 5] (fun q i w' => ∃ (j : Nat) (cs : List Value) (us : Nat → Value), j ≤ n ∧ i = .int .i64 j ∧ q = .int .i64 (k + cntTo cntElCont j xs) ∧ PO contR 54 2 lvCont w' base (.slice av n cv) n n (fun i => if i < j then (mkL mkElCont cntElCont k xs).getD i default else xs.getD i default) cs us fs ∧ Mod F w w') (fun _ i _ => n - (intOf i).toNat)
  case atStart => exact ⟨0, cs, us, Nat.zero_le _, rfl, by simp [cntTo], hp.cast (fun i hi => by simp), Mod.refl _ _⟩
  case round =>
    clear hp
    obtain ⟨j, cs, us, hj, rfl, rfl, hp1, hm⟩ := hrel
    by_cases hlt : j < n
    · have he := hp1.el j hlt
      simp only [Nat.lt_irrefl, if_false] at he
      obtain ⟨g, rfl, hcl⟩ := hp1.at hlt hlt
      obtain ⟨t1, t2, t3⟩ := HT.out j hlt
      have hw1 := hW j hlt
      obtain ⟨l, hl⟩ : ∃ l, l = xs.getD j default := ⟨_, rfl⟩
      rw [← hl] at t1 t2 hw1 he
      have tC : cntElCont l = 1 + cntLegs l.legs := rfl
      rw [tC] at t2
      have tW : wtCont l = wtLegs l.legs := rfl
      rw [tW] at hw1
      clear tC tW
      obtain ⟨q, hq⟩ : ∃ q, q = k + cntTo cntElCont j xs := ⟨_, rfl⟩
      have hq0 : 0 ≤ q := by omega
      rw [← hq] at t1 ⊢
      have T1 : Hid ((mkL mkElCont cntElCont k xs).getD j default = mkElCont q l) := t1
      have T2 : Hid (k + cntTo cntElCont (j + 1) xs = q + 1 + cntLegs l.legs) := by show _ = _; omega
      have hq1 : q + 1 + cntLegs l.legs ≤ 1073741824 := by omega
      obtain ⟨ux1, F1, hu, h1, hF⟩ := he
      rw [hu] at hcl
      have g0 : wr.cell? ⟨g, j * 2, none⟩ = some (.int .i64 l.id) := hcl 0 (by omega)
      have g1 : wr.cell? ⟨g, j * 2 + 1, none⟩ = some (ux1) := hcl 1 (by omega)
      have hrow := hp1.row
      have hclen := hrow.1
      have hf := fun j => hrow.frozenAt j
      clear hl t1 t2 t3 hW hq hcl
      go_wp2_with fail
      have st1 := hrow.stored (j * 2) (.int .i64 (q))
      replace h1 := legsR.mod h1 (Mod.of_grown st1.2) (fun b hb he => hp1.out j hlt b ((hF b).2 hb) he)
      have M1 := (Mod.of_grown st1.2).mono (G := fun b => (Value.slice (some ⟨g, 0, none⟩) n cv).ownBlock = some b ∨ fs j b) (fun b hb => .inl hb)
      refine (markLegS_u ux1 l.legs base F1 (q + 1) _ h1 (by omega) (by omega) (by omega)).mono ?_
      rintro e wb1 ⟨rfl, r1, m1⟩
      have rw1 := m1.owns st1.1 (fun b he hb => hp1.out j hlt b ((hF b).2 hb) he)
      have M2 := m1.mono (G := fun b => (Value.slice (some ⟨g, 0, none⟩) n cv).ownBlock = some b ∨ fs j b) (fun b hb => .inr ((hF b).2 hb))
      go_wp2
      have hq := hp1.turn (u := (.agg #[.int .i64 (q), ux1])) (x := mkElCont q l) hlt (M1.trans M2) ⟨ux1, F1, rfl, r1, hF⟩ rfl rw1 ?_ ?_
      · refine ⟨⟨j + 1, _, _, by omega, by go_num, by rw [T2.out], hq.cast fun i hi => ?_, hm.trans ((M1.trans M2).mono fun b hb => (HF.out b).2 ?_)⟩, by simp [intOf]; omega⟩
        · by_cases hij : i = j
          · subst hij
            rw [upd_at, if_pos (by omega)]
            exact T1.out
          · rw [upd_ne _ _ hij]
            by_cases h : i < j
            · rw [if_pos h, if_pos (by omega)]
            · rw [if_neg h, if_neg (by omega)]
        · rcases hb with hb | hb
          · exact .inl hb
          · exact .inr ⟨j, hlt, hb⟩
      · intro i hi hij o ho
        simp only [List.getElem?_set]
        rw [if_neg (by omega)]
      · intro o ho
        have ho' : o = 0 ∨ o = 1 := by omega
        rcases ho' with rfl | rfl
        · rw [Nat.add_zero, List.getElem?_set_self (by (try simp only [List.length_set]); omega)]
          rfl
        · rw [List.getElem?_set_ne (by omega), hp1.cell j hlt 1 (by omega), hu]
          rfl
    · go_wp2
      go_ret
      have hjn : j = n := by omega
      subst hjn
      refine ⟨rfl, ⟨cs, us, fs, ?_, ?_⟩, hm⟩
      · unfold mkConts
        rw [HM.out]
        exact hp1.cast (fun i hi => by rw [if_pos hi])
      · unfold mkConts
        rw [HM.out]
        exact HF.out
end Go.Proofs.YtedcfokhdkljaaaGreat

