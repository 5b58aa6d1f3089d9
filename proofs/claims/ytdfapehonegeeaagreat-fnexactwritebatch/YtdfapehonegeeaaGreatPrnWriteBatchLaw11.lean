import Derived.Test.YtdfapehonegeeaaGreatPrnWriteBatchLaw10
import Derived.Test.YtdfapehonegeeaaGreatPrnWriteBatchLaw9
import Derived.Test.YtdfapehonegeeaaGreatPrnWriteBatchLaw3
import Derived.Test.YtdfapehonegeeaaGreatPrnWriteBatchLaw1
import Derived.Test.YtdfapehonegeeaaGreatPrnWriteBatchLaw6

/-
  The specification's MergeTables.
-/
namespace Go.Proofs.YtdfapehonegeeaaGreat
open Go.RowKit
set_option linter.unusedSectionVars false
variable [DecidableEq Rw] [Inhabited Rw] [DecidableEq TabR] [Inhabited TabR]
set_option linter.unusedVariables false
set_option linter.unusedSimpArgs false
attribute [local go_sem ↓] Go.wp_at_zero Go.wp_at_succ

def flatTo (xss : Nat → List Rw) : Nat → List Rw
  | 0 => []
  | k + 1 => flatTo xss k ++ xss k
theorem putL_pos (ys : List Rw) (r : Rw) : 1 ≤ (putL ys r).length := by
  cases ys with
  | nil => simp [putL]
  | cons y ys =>
    have := (length_putL (y :: ys) r).1
    simp only [List.length_cons] at this
    omega
def OutS (W : World) (base : Nat) (v : Value) (ys : List Rw) : Prop := (∃ g c, v = .slice (some ⟨g, 0, none⟩) ys.length c) ∧ W.ownsRow base 76 4 v ys.length (rwsC ys)
theorem OutS.below {W W' : World} {base : Nat} {v : Value} {ys : List Rw} (h : OutS W base v ys) (hb : Below W.heap.size W W') : OutS W' base v ys := ⟨h.1, owns_below h.2 hb⟩
theorem l5Put_L (x : Value) (ys : List Rw) (r : Rw) (base : Nat) (w : World) (hx : OutS w base x ys) (hbase : base ≤ w.heap.size) (hn : ys.length ≤ 1048000) :
    Calls Tryz.prog 68 #[x, rowV r] w fun e w' => ∃ v, e = .returned v ∧ OutS w' base v (putL ys r) ∧ Below w.heap.size w w' := by
  obtain ⟨⟨g, c, rfl⟩, ho⟩ := hx
  refine (l5Put_any _ ys r w (RowsV_of_owns ho) ⟨g, 0, c, rfl⟩ hn).mono ?_
  rintro e w' ⟨k, hk, hb, h⟩
  rw [putK_putL ys r k hk] at h
  rcases h with ⟨e1, rfl⟩ | ⟨v, rfl, h⟩
  · rw [e1]
    exact ⟨_, rfl, ⟨⟨g, c, rfl⟩, owns_below ho hb⟩, hb⟩
  · refine ⟨v, rfl, ⟨?_, owns_base h hbase⟩, hb⟩
    have hp := putL_pos ys r
    rcases h.2 with ⟨_, h0⟩ | ⟨g', cap, _, rfl, _⟩
    · omega
    · exact ⟨g', cap, rfl⟩
end Go.Proofs.YtdfapehonegeeaaGreat

/-
  MergeTables: what is answered; the specification's side.
-/
namespace Go.Proofs.YtdfapehonegeeaaGreat
open Go.RowKit
set_option linter.unusedSectionVars false
variable [DecidableEq Rw] [Inhabited Rw] [DecidableEq TabR] [Inhabited TabR]
set_option linter.unusedVariables false
set_option linter.unusedSimpArgs false
attribute [local go_sem ↓] Go.wp_at_zero Go.wp_at_succ

theorem find_first : ∀ {l : List Int} {k : Nat}, k < l.length → (∀ j, j < k → l.getD j 0 = 0) → l.getD k 0 ≠ 0 → (l.find? (fun c => decide (c ≠ 0))).getD 0 = l.getD k 0
  | [], _, h, _, _ => by simp at h
  | x :: l, 0, _, _, hc => by
    have hx : x ≠ 0 := by simpa using hc
    rw [List.find?_cons_of_pos (by simpa using hx)]
    simp
  | x :: l, k + 1, hk, h, hc => by
    have hx : x = 0 := by simpa using h 0 (by omega)
    rw [List.find?_cons_of_neg (by simp [hx])]
    rw [find_first (l := l) (k := k) (by simpa using hk) (fun j hj => by simpa using h (j + 1) (by omega)) (by simpa using hc)]
    simp
theorem find_none : ∀ {l : List Int}, (∀ j, j < l.length → l.getD j 0 = 0) → (l.find? (fun c => decide (c ≠ 0))).getD 0 = 0
  | [], _ => rfl
  | x :: l, h => by
    have hx : x = 0 := by simpa using h 0 (by simp)
    rw [List.find?_cons_of_neg (by simp [hx])]
    exact find_none (fun j hj => by simpa using h (j + 1) (by simpa using hj))
def firstF (xss : List (List Rw)) : Int := ((xss.map tabF).find? (fun c => decide (c ≠ 0))).getD 0
theorem getD_tabF (xss : List (List Rw)) {j : Nat} (hj : j < xss.length) : (xss.map tabF).getD j 0 = tabF (xss.getD j default) := by simp [List.getD, hj]
theorem firstF_at {xss : List (List Rw)} {k : Nat} (hk : k < xss.length) (h : ∀ j, j < k → tabF (xss.getD j default) = 0) (hc : tabF (xss.getD k default) ≠ 0) : firstF xss = tabF (xss.getD k default) := by
  unfold firstF
  rw [find_first (k := k) (by simpa using hk) (fun j hj => by rw [getD_tabF xss (by omega)]; exact h j hj) (by rw [getD_tabF xss hk]; exact hc), getD_tabF xss hk]
theorem firstF_none {xss : List (List Rw)} (h : ∀ j, j < xss.length → tabF (xss.getD j default) = 0) : firstF xss = 0 :=
  find_none (fun j hj => by rw [List.length_map] at hj; rw [getD_tabF xss hj]; exact h j hj)
theorem flatTo_len {f : Nat → List Rw} {M : Nat} : ∀ {n : Nat}, (∀ i, i < n → (f i).length ≤ M) → (flatTo f n).length ≤ n * M
  | 0, _ => by simp [flatTo]
  | n + 1, h => by
    have ih := flatTo_len (n := n) (fun i hi => h i (by omega))
    have h1 := h n (by omega)
    have e : flatTo f (n + 1) = flatTo f n ++ f n := rfl
    rw [e, List.length_append, Nat.succ_mul]
    omega
theorem rowFault_small {x : Rw} (h : rowFault x = 0) : x.key.size ≤ 20 ∧ x.val.size ≤ 100 := by
  unfold rowFault at h
  split at h
  · omega
  · rename_i h1
    split at h
    · omega
    · rename_i h2
      exact ⟨by omega, by omega⟩
theorem tab_small {xs : List Rw} (h : tabF xs = 0) : ∀ x ∈ xs, rowFault x = 0 := by
  intro x hx
  obtain ⟨i, hi, rfl⟩ := List.mem_iff_getElem.1 hx
  have := (tabAt_zero ((tabF_all h).2 i hi)).1
  simpa [List.getD, hi] using this
theorem wt_small : ∀ {ys : List Rw}, (∀ x ∈ ys, rowFault x = 0) → wtRows ys ≤ ys.length * 121
  | [], _ => by simp [wtRows]
  | y :: ys, h => by
    have ih := wt_small (ys := ys) (fun x hx => h x (List.mem_cons_of_mem _ hx))
    have h1 := rowFault_small (h y (List.mem_cons_self ..))
    unfold wtRows at ih ⊢
    simp only [List.length_cons, List.map_cons, List.sum_cons, Nat.succ_mul]
    have h2 : wtRw y = y.key.size + y.val.size := rfl
    omega
theorem firstF_zero {xss : List (List Rw)} (h : firstF xss = 0) : ∀ j, j < xss.length → tabF (xss.getD j default) = 0 := by
  intro j
  induction j using Nat.strongRecOn with
  | _ j ih =>
    intro hj
    by_cases hc : tabF (xss.getD j default) = 0
    · exact hc
    · have := firstF_at hj (fun i hi => ih i hi (by omega)) hc
      omega
end Go.Proofs.YtdfapehonegeeaaGreat

/-
  Log. (Written by program: nest.py.)
-/
namespace Go.Proofs.YtdfapehonegeeaaGreat
open Go.RowKit
set_option linter.unusedSectionVars false
attribute [local go_sem ↓] Go.wp_at_zero Go.wp_at_succ

set_option linter.unusedSimpArgs false

structure Logg where
  synced : List Byte
  loose : List Byte
variable [DecidableEq Logg] [Inhabited Logg]

def loggR : Rep Logg where
  V := fun w v x => ∃ u1 u2, v = .agg #[u1, u2] ∧ bytesR.V w u1 x.synced ∧ bytesR.V w u2 x.loose
  O := fun w base F v x => ∃ u1 u2 F1 F2, v = .agg #[u1, u2] ∧ bytesR.O w base F1 u1 x.synced ∧ bytesR.O w base F2 u2 x.loose ∧ (∀ b, F1 b → ¬ F2 b) ∧ (∀ b, F b ↔ (F1 b ∨ F2 b))
  below := fun h hb => by
    obtain ⟨u1, u2, rfl, h1, h2⟩ := h
    exact ⟨u1, u2, rfl, bytesR.below h1 hb, bytesR.below h2 hb⟩
  ofO := fun h => by
    obtain ⟨u1, u2, F1, F2, rfl, h1, h2, _⟩ := h
    exact ⟨u1, u2, rfl, bytesR.ofO h1, bytesR.ofO h2⟩
  mod := fun h hm hd => by
    obtain ⟨u1, u2, F1, F2, rfl, h1, h2, s12, hF⟩ := h
    exact ⟨u1, u2, F1, F2, rfl, bytesR.mod h1 hm (fun b hb => hd b ((hF b).2 (.inl hb))), bytesR.mod h2 hm (fun b hb => hd b ((hF b).2 (.inr hb))), s12, hF⟩
  rng := fun h b hb => by
    obtain ⟨u1, u2, F1, F2, rfl, h1, h2, s12, hF⟩ := h
    rcases (hF b).1 hb with hb | hb
    · exact bytesR.rng h1 b hb
    · exact bytesR.rng h2 b hb
  base := fun h hb => by
    obtain ⟨u1, u2, F1, F2, rfl, h1, h2, s12, hF⟩ := h
    exact ⟨u1, u2, F1, F2, rfl, bytesR.base h1 hb, bytesR.base h2 hb, s12, hF⟩
def wtLogg (x : Logg) : Nat := wtBytes x.synced + wtBytes x.loose
def cntLogg (x : Logg) : Nat := cntBytes x.synced + cntBytes x.loose
def mkLogg (k : Int) (x : Logg) : Logg := { x with synced := mkBytes k x.synced, loose := mkBytes (k + cntBytes x.synced) x.loose }
theorem logg_form {w : World} {v : Value} {x : Logg} (h : loggR.V w v x) : ∃ a1 a2 c1 c2, v = .agg #[.slice a1 x.synced.length c1, .slice a2 x.loose.length c2] := by
  obtain ⟨u1, u2, rfl, h1, h2⟩ := h
  obtain ⟨a1, c1, rfl⟩ := bytes_form h1
  obtain ⟨a2, c2, rfl⟩ := bytes_form h2
  exact ⟨_, _, _, _, rfl⟩
theorem logg_cnt (d : Logg) : cntLogg d ≤ 1 * wtLogg d := by
  unfold cntLogg wtLogg
  have q1 := bytes_cnt d.synced
  have q2 := bytes_cnt d.loose
  omega
set_option maxHeartbeats 1000000 in
theorem toLog_u (x : Value) (d : Logg) (w : World) (hx : loggR.V w x d) (hn : wtLogg d ≤ 1048576) :
    Calls Tryz.prog 48 #[x] w fun e w' => ∃ v F, e = .returned v ∧ loggR.O w' w.heap.size F v d ∧ Below w.heap.size w w' := by
  obtain ⟨u1, u2, rfl, h1, h2⟩ := hx
  unfold wtLogg at hn
  go_enter Tryz.func48, Tryz.ntmps48
  go_wp2_with fail
  refine (toByteS_u _ d.synced _ (bytesR.below h1 (by (repeat (first | exact Below.refl _ _ | assumption | refine Below.drew ?_ | refine balloc ?_ _ | refine bset ?_ (by simp; omega) _ | refine bset ?_ (by simp) _ | refine bstep ?_ (by assumption))))) (by omega)).mono ?_
  rintro e w1 ⟨v1, F1, rfl, o1, b1⟩
  obtain ⟨a1, n1, rfl⟩ := bytes_form (bytesR.ofO o1)
  obtain ⟨c1, f1⟩ := bcell b1
  have z1 := b1.size
  simp at z1
  have l1 := fun b hb => bytesR.rng o1 b hb
  simp at l1
  replace o1 := bytesR.base (base' := w.heap.size + 3) o1 (by simp; try omega)
  have y0 : w1.cell? ⟨w.heap.size, 0, none⟩ = some (u1) := cell_keep b1 (by simp [go_sem])
  have y1 : w1.cell? ⟨w.heap.size, 1, none⟩ = some (u2) := cell_keep b1 (by simp [go_sem])
  have r0 : w1.cell? ⟨w.heap.size + 1, 0, none⟩ = some (.slice none 0 0) := cell_keep b1 (by simp [go_sem])
  have r1 : w1.cell? ⟨w.heap.size + 1, 1, none⟩ = some (.slice none 0 0) := cell_keep b1 (by simp [go_sem])
  have s0 : w1.cell? ⟨w.heap.size + 2, 0, none⟩ = some (.slice none 0 0) := cell_keep b1 (by simp [go_sem])
  have s1 : w1.cell? ⟨w.heap.size + 2, 1, none⟩ = some (.slice none 0 0) := cell_keep b1 (by simp [go_sem])
  have t1 : ∀ o, w1.frozen? ⟨w.heap.size + 1, o, none⟩ = false := fun o => by rw [f1 _ _ (by simp; try omega)]; simp [go_sem]
  have t2 : ∀ o, w1.frozen? ⟨w.heap.size + 2, o, none⟩ = false := fun o => by rw [f1 _ _ (by simp; try omega)]; simp [go_sem]
  clear c1 f1
  have x0 := y0
  have x1 := y1
  have q0 := r0
  have q1 := r1
  have p0 := s0
  have p1 := s1
  have qf := t1
  have pf := t2
  clear t1 t2 y0 y1 r0 r1 s0 s1
  go_wp2_with fail
  refine (toByteS_u _ d.loose _ (bytesR.below h2 (by (repeat (first | exact Below.refl _ _ | assumption | refine Below.drew ?_ | refine balloc ?_ _ | refine bset ?_ (by simp; omega) _ | refine bset ?_ (by simp) _ | refine bstep ?_ (by assumption))))) (by omega)).mono ?_
  rintro e w2 ⟨v2, F2, rfl, o2, b2⟩
  obtain ⟨a2, n2, rfl⟩ := bytes_form (bytesR.ofO o2)
  obtain ⟨c2, f2⟩ := bcell b2
  have z2 := b2.size
  simp at z2
  have l2 := fun b hb => bytesR.rng o2 b hb
  simp at l2
  replace o2 := bytesR.base (base' := w.heap.size + 3) o2 (by simp; try omega)
  have y0 : w2.cell? ⟨w.heap.size, 0, none⟩ = some (u1) := cell_keep b2 (by simp [go_sem, x0, x1, q0, q1, p0, p1])
  have y1 : w2.cell? ⟨w.heap.size, 1, none⟩ = some (u2) := cell_keep b2 (by simp [go_sem, x0, x1, q0, q1, p0, p1])
  have r0 : w2.cell? ⟨w.heap.size + 1, 0, none⟩ = some (.slice none 0 0) := cell_keep b2 (by simp [go_sem, x0, x1, q0, q1, p0, p1])
  have r1 : w2.cell? ⟨w.heap.size + 1, 1, none⟩ = some (.slice none 0 0) := cell_keep b2 (by simp [go_sem, x0, x1, q0, q1, p0, p1])
  have s0 : w2.cell? ⟨w.heap.size + 2, 0, none⟩ = some (.slice a1 d.synced.length n1) := cell_keep b2 (by simp [go_sem, x0, x1, q0, q1, p0, p1])
  have s1 : w2.cell? ⟨w.heap.size + 2, 1, none⟩ = some (.slice none 0 0) := cell_keep b2 (by simp [go_sem, x0, x1, q0, q1, p0, p1])
  have t1 : ∀ o, w2.frozen? ⟨w.heap.size + 1, o, none⟩ = false := fun o => by rw [f2 _ _ (by simp; try omega)]; simp [go_sem, qf]
  have t2 : ∀ o, w2.frozen? ⟨w.heap.size + 2, o, none⟩ = false := fun o => by rw [f2 _ _ (by simp; try omega)]; simp [go_sem, pf]
  clear x0 x1 q0 q1 p0 p1 qf pf
  clear c2 f2
  have x0 := y0
  have x1 := y1
  have q0 := r0
  have q1 := r1
  have p0 := s0
  have p1 := s1
  have qf := t1
  have pf := t2
  clear t1 t2 y0 y1 r0 r1 s0 s1
  go_wp2
  refine bodyPost_ret (v := .agg #[.slice a1 d.synced.length n1, .slice a2 d.loose.length n2]) ?_ rfl ⟨_, fun b => F1 b ∨ F2 b, rfl, ⟨_, _, F1, F2, rfl, bytesR.base (base := w.heap.size + 3) (by (repeat (first | assumption | refine Rep.set _ ?_ _ (by simp; omega) | refine Rep.set _ ?_ _ (by simp) | refine Rep.alloc _ ?_ _ | refine Rep.keep _ ?_ (by assumption)))) (by omega), bytesR.base (base := w.heap.size + 3) (by (repeat (first | assumption | refine Rep.set _ ?_ _ (by simp; omega) | refine Rep.set _ ?_ _ (by simp) | refine Rep.alloc _ ?_ _ | refine Rep.keep _ ?_ (by assumption)))) (by omega), fun b p q => by have := (l1 b p).2; have := (l2 b q).1; omega, fun b => Iff.rfl⟩, by (repeat (first | exact Below.refl _ _ | assumption | refine Below.drew ?_ | refine balloc ?_ _ | refine bset ?_ (by simp; omega) _ | refine bset ?_ (by simp) _ | refine bstep ?_ (by assumption)))⟩
  simp [results, Tryz.results48, go_sem, q0, q1, p0, p1, qf, pf]
set_option maxHeartbeats 1000000 in
theorem szLog_u (x : Value) (d : Logg) (left : Int) (w : World) (hx : loggR.V w x d) (h0 : 0 ≤ left) (h1 : left ≤ 1048576) :
    Calls Tryz.prog 39 #[x, .int .i64 left] w fun e w' => e = .returned (.int .i64 (szLen left (wtLogg d))) ∧ Below w.heap.size w w' := by
  obtain ⟨u1, u2, rfl, k1, k2⟩ := hx
  go_enter Tryz.func39, Tryz.ntmps39
  go_wp2_with fail
  refine (szByteS_u _ d.synced left _ (bytesR.below k1 (by (repeat (first | exact Below.refl _ _ | assumption | refine Below.drew ?_ | refine balloc ?_ _ | refine bset ?_ (by simp; omega) _ | refine bset ?_ (by simp) _ | refine bstep ?_ (by assumption))))) h0 h1).mono ?_
  rintro e w1 ⟨rfl, b1⟩
  have x0 : w1.cell? ⟨w.heap.size, 0, none⟩ = some (u1) := cell_keep b1 (by simp [go_sem])
  have x1 : w1.cell? ⟨w.heap.size, 1, none⟩ = some (u2) := cell_keep b1 (by simp [go_sem])
  go_wp2_with fail
  · rename_i h
    go_ret
    refine ⟨?_, by (repeat (first | exact Below.refl _ _ | assumption | refine Below.drew ?_ | refine balloc ?_ _ | refine bset ?_ (by simp; omega) _ | refine bset ?_ (by simp) _ | refine bstep ?_ (by assumption)))⟩
    rw [szLen_neg (n := wtBytes d.synced) (by omega) (wtLogg d) (by unfold wtLogg; omega)]
    rfl
  rename_i h
  refine (szByteS_u _ d.loose (szLen left (wtBytes d.synced : Nat)) _ (bytesR.below k2 (by (repeat (first | exact Below.refl _ _ | assumption | refine Below.drew ?_ | refine balloc ?_ _ | refine bset ?_ (by simp; omega) _ | refine bset ?_ (by simp) _ | refine bstep ?_ (by assumption))))) (by omega) (by have := szLen_le (n := wtBytes d.synced) h0; omega)).mono ?_
  rintro e w2 ⟨rfl, b2⟩
  rw [szLen_add (n := wtBytes d.synced) (by omega)]
  go_wp2
  · rename_i h
    go_ret
    refine ⟨?_, by (repeat (first | exact Below.refl _ _ | assumption | refine Below.drew ?_ | refine balloc ?_ _ | refine bset ?_ (by simp; omega) _ | refine bset ?_ (by simp) _ | refine bstep ?_ (by assumption)))⟩
    rw [szLen_neg (n := wtBytes d.synced + wtBytes d.loose) (by first | omega | (rw [Int.natCast_add]; omega)) (wtLogg d) (by unfold wtLogg; omega)]
    rfl
  rename_i h
  go_ret
  exact ⟨rfl, by (repeat (first | exact Below.refl _ _ | assumption | refine Below.drew ?_ | refine balloc ?_ _ | refine bset ?_ (by simp; omega) _ | refine bset ?_ (by simp) _ | refine bstep ?_ (by assumption)))⟩
set_option maxHeartbeats 1000000 in
theorem eqLog_u (x y : Value) (d d' : Logg) (w : World) (hx : loggR.V w x d) (hy : loggR.V w y d') :
    Calls Tryz.prog 58 #[x, y] w fun e w' => e = .returned (.bool (decide (d = d'))) ∧ Below w.heap.size w w' := by
  obtain ⟨u1, u2, rfl, h1, h2⟩ := hx
  obtain ⟨v1, v2, rfl, k1, k2⟩ := hy
  obtain ⟨synced, loose⟩ := d
  obtain ⟨synced', loose'⟩ := d'
  dsimp only at h1 k1 h2 k2
  go_enter Tryz.func58, Tryz.ntmps58
  go_wp2_with fail
  all_goals try (go_ret; exact ⟨by simp_all, by (repeat (first | exact Below.refl _ _ | assumption | refine Below.drew ?_ | refine balloc ?_ _ | refine bset ?_ (by simp; omega) _ | refine bset ?_ (by simp) _ | refine bstep ?_ (by assumption)))⟩)
  refine (eqByteS_u _ _ synced synced' _ (bytesR.below h1 (by (repeat (first | exact Below.refl _ _ | assumption | refine Below.drew ?_ | refine balloc ?_ _ | refine bset ?_ (by simp; omega) _ | refine bset ?_ (by simp) _ | refine bstep ?_ (by assumption))))) (bytesR.below k1 (by (repeat (first | exact Below.refl _ _ | assumption | refine Below.drew ?_ | refine balloc ?_ _ | refine bset ?_ (by simp; omega) _ | refine bset ?_ (by simp) _ | refine bstep ?_ (by assumption)))))).mono ?_
  rintro e w1 ⟨rfl, b1⟩
  have x0 : w1.cell? ⟨w.heap.size, 0, none⟩ = some (u1) := cell_keep b1 (by simp [go_sem])
  have x1 : w1.cell? ⟨w.heap.size, 1, none⟩ = some (u2) := cell_keep b1 (by simp [go_sem])
  have y0 : w1.cell? ⟨w.heap.size + 1, 0, none⟩ = some (v1) := cell_keep b1 (by simp [go_sem])
  have y1 : w1.cell? ⟨w.heap.size + 1, 1, none⟩ = some (v2) := cell_keep b1 (by simp [go_sem])
  go_wp2_with fail
  all_goals try (go_ret; exact ⟨by simp_all, by (repeat (first | exact Below.refl _ _ | assumption | refine Below.drew ?_ | refine balloc ?_ _ | refine bset ?_ (by simp; omega) _ | refine bset ?_ (by simp) _ | refine bstep ?_ (by assumption)))⟩)
  refine (eqByteS_u _ _ loose loose' _ (bytesR.below h2 (by (repeat (first | exact Below.refl _ _ | assumption | refine Below.drew ?_ | refine balloc ?_ _ | refine bset ?_ (by simp; omega) _ | refine bset ?_ (by simp) _ | refine bstep ?_ (by assumption))))) (bytesR.below k2 (by (repeat (first | exact Below.refl _ _ | assumption | refine Below.drew ?_ | refine balloc ?_ _ | refine bset ?_ (by simp; omega) _ | refine bset ?_ (by simp) _ | refine bstep ?_ (by assumption)))))).mono ?_
  rintro e w2 ⟨rfl, b2⟩
  go_wp2
  all_goals
    go_ret
    exact ⟨by simp_all, by (repeat (first | exact Below.refl _ _ | assumption | refine Below.drew ?_ | refine balloc ?_ _ | refine bset ?_ (by simp; omega) _ | refine bset ?_ (by simp) _ | refine bstep ?_ (by assumption)))⟩
set_option maxHeartbeats 1000000 in
theorem markLog_u (v : Value) (d : Logg) (base : Nat) (F : Nat → Prop) (k : Int) (w : World) (ho : loggR.O w base F v d) (hw : wtLogg d ≤ 1048576) (hn : k + cntLogg d ≤ 1073741824) (hk0 : 0 ≤ k) :
    Calls Tryz.prog 81 #[v, .int .i64 k] w fun r w' => r = .returned (.int .i64 (k + cntLogg d)) ∧ loggR.O w' base F v (mkLogg k d) ∧ Mod F w w' := by
  obtain ⟨u1, u2, F1, F2, rfl, h1, h2, s12, hF⟩ := ho
  unfold wtLogg at hw
  unfold cntLogg at hn ⊢
  have HF : Hid (∀ b, F b ↔ (F1 b ∨ F2 b)) := hF
  clear hF
  go_enter Tryz.func81, Tryz.ntmps81
  go_wp2_with fail
  refine (markByteS_u _ d.synced base F1 k _ (bytesR.alloc h1 _) (by omega) (by omega) (by omega)).mono ?_
  rintro e w1 ⟨rfl, r1, m1⟩
  have h2' := bytesR.mod (bytesR.alloc h2 _) m1 (fun b p q => s12 b q p)
  have x0 : w1.cell? ⟨w.heap.size, 0, none⟩ = some (u1) := m1.cell (by simp [go_sem]) (fun hf => by have := bytesR.rng h1 _ hf; dsimp only at this; omega)
  have x1 : w1.cell? ⟨w.heap.size, 1, none⟩ = some (u2) := m1.cell (by simp [go_sem]) (fun hf => by have := bytesR.rng h1 _ hf; dsimp only at this; omega)
  go_wp2_with fail
  refine (markByteS_u _ d.loose base F2 (k + cntBytes d.synced) _ h2' (by omega) (by omega) (by omega)).mono ?_
  rintro e w2 ⟨rfl, r2, m2⟩
  replace r1 := bytesR.mod r1 m2 (fun b p q => s12 b p q)
  go_wp2
  go_ret
  refine ⟨?_, ⟨_, _, F1, F2, rfl, r1, r2, s12, HF.out⟩, (((Mod.refl F w).alloc _).trans (m1.mono (fun b hb => (HF.out b).2 (.inl hb)))).trans (m2.mono (fun b hb => (HF.out b).2 (.inr hb)))⟩
  simp
  try omega
set_option maxHeartbeats 1000000 in
theorem heldLog_u (v : Value) (d : Logg) (k : Int) (w : World) (hv : loggR.V w v (mkLogg k d)) (hw : wtLogg d ≤ 1048576) (hn : k + cntLogg d ≤ 1073741824) (hk0 : 0 ≤ k) :
    Calls Tryz.prog 134 #[v, .int .i64 k] w fun r w' => r = .returned (.int .i64 (k + cntLogg d)) ∧ Below w.heap.size w w' := by
  obtain ⟨u1, u2, rfl, h1, h2⟩ := hv
  unfold wtLogg at hw
  unfold cntLogg at hn ⊢
  go_enter Tryz.func134, Tryz.ntmps134
  go_wp2_with fail
  refine (heldByteS_u _ d.synced k _ (bytesR.below h1 (by (repeat (first | exact Below.refl _ _ | assumption | refine Below.drew ?_ | refine balloc ?_ _ | refine bset ?_ (by simp; omega) _ | refine bset ?_ (by simp) _ | refine bstep ?_ (by assumption))))) (by omega) (by omega) (by omega)).mono ?_
  rintro e w1 ⟨rfl, b1⟩
  have x0 : w1.cell? ⟨w.heap.size, 0, none⟩ = some (u1) := cell_keep b1 (by simp [go_sem])
  have x1 : w1.cell? ⟨w.heap.size, 1, none⟩ = some (u2) := cell_keep b1 (by simp [go_sem])
  go_wp2_with fail
  refine (heldByteS_u _ d.loose (k + cntBytes d.synced) _ (bytesR.below h2 (by (repeat (first | exact Below.refl _ _ | assumption | refine Below.drew ?_ | refine balloc ?_ _ | refine bset ?_ (by simp; omega) _ | refine bset ?_ (by simp) _ | refine bstep ?_ (by assumption))))) (by omega) (by omega) (by omega)).mono ?_
  rintro e w2 ⟨rfl, b2⟩
  go_wp2
  go_ret
  refine ⟨?_, by (repeat (first | exact Below.refl _ _ | assumption | refine Below.drew ?_ | refine balloc ?_ _ | refine bset ?_ (by simp; omega) _ | refine bset ?_ (by simp) _ | refine bstep ?_ (by assumption)))⟩
  simp
  try omega
end Go.Proofs.YtdfapehonegeeaaGreat

/-
  Engine. (Written by program: nest.py.)
-/
namespace Go.Proofs.YtdfapehonegeeaaGreat
open Go.RowKit
set_option linter.unusedSectionVars false
variable [DecidableEq Logg] [Inhabited Logg] [DecidableEq Rw] [Inhabited Rw]
attribute [local go_sem ↓] Go.wp_at_zero Go.wp_at_succ

set_option linter.unusedSimpArgs false

structure Engn where
  log : Logg
  mem : List Rw
  tables : List (List Rw)
  next : Int
variable [DecidableEq Engn] [Inhabited Engn]

def engnR : Rep Engn where
  V := fun w v x => ∃ u1_1 u1_2 u2 u3, v = .agg #[u1_1, u1_2, u2, u3, .int .i64 x.next] ∧ loggR.V w (.agg #[u1_1, u1_2]) x.log ∧ rowsR.V w u2 x.mem ∧ rowssR.V w u3 x.tables
  O := fun w base F v x => ∃ u1_1 u1_2 u2 u3 F1 F2 F3, v = .agg #[u1_1, u1_2, u2, u3, .int .i64 x.next] ∧ loggR.O w base F1 (.agg #[u1_1, u1_2]) x.log ∧ rowsR.O w base F2 u2 x.mem ∧ rowssR.O w base F3 u3 x.tables ∧ (∀ b, F1 b → ¬ F2 b) ∧ (∀ b, F1 b → ¬ F3 b) ∧ (∀ b, F2 b → ¬ F3 b) ∧ (∀ b, F b ↔ (F1 b ∨ F2 b ∨ F3 b))
  below := fun h hb => by
    obtain ⟨u1_1, u1_2, u2, u3, rfl, h1, h2, h3⟩ := h
    exact ⟨u1_1, u1_2, u2, u3, rfl, loggR.below h1 hb, rowsR.below h2 hb, rowssR.below h3 hb⟩
  ofO := fun h => by
    obtain ⟨u1_1, u1_2, u2, u3, F1, F2, F3, rfl, h1, h2, h3, _⟩ := h
    exact ⟨u1_1, u1_2, u2, u3, rfl, loggR.ofO h1, rowsR.ofO h2, rowssR.ofO h3⟩
  mod := fun h hm hd => by
    obtain ⟨u1_1, u1_2, u2, u3, F1, F2, F3, rfl, h1, h2, h3, s12, s13, s23, hF⟩ := h
    exact ⟨u1_1, u1_2, u2, u3, F1, F2, F3, rfl, loggR.mod h1 hm (fun b hb => hd b ((hF b).2 (.inl hb))), rowsR.mod h2 hm (fun b hb => hd b ((hF b).2 (.inr (.inl hb)))), rowssR.mod h3 hm (fun b hb => hd b ((hF b).2 (.inr (.inr hb)))), s12, s13, s23, hF⟩
  rng := fun h b hb => by
    obtain ⟨u1_1, u1_2, u2, u3, F1, F2, F3, rfl, h1, h2, h3, s12, s13, s23, hF⟩ := h
    rcases (hF b).1 hb with hb | hb | hb
    · exact loggR.rng h1 b hb
    · exact rowsR.rng h2 b hb
    · exact rowssR.rng h3 b hb
  base := fun h hb => by
    obtain ⟨u1_1, u1_2, u2, u3, F1, F2, F3, rfl, h1, h2, h3, s12, s13, s23, hF⟩ := h
    exact ⟨u1_1, u1_2, u2, u3, F1, F2, F3, rfl, loggR.base h1 hb, rowsR.base h2 hb, rowssR.base h3 hb, s12, s13, s23, hF⟩
def wtEngn (x : Engn) : Nat := wtLogg x.log + wtRows x.mem + wtRowss x.tables
def cntEngn (x : Engn) : Nat := cntLogg x.log + cntRows x.mem + cntRowss x.tables
def mkEngn (k : Int) (x : Engn) : Engn := { x with log := mkLogg k x.log, mem := mkRows (k + cntLogg x.log) x.mem, tables := mkRowss (k + cntLogg x.log + cntRows x.mem) x.tables }
theorem engn_form {w : World} {v : Value} {x : Engn} (h : engnR.V w v x) : ∃ a1_1 a1_2 a2 a3 c1_1 c1_2 c2 c3, v = .agg #[.slice a1_1 x.log.synced.length c1_1, .slice a1_2 x.log.loose.length c1_2, .slice a2 x.mem.length c2, .slice a3 x.tables.length c3, .int .i64 x.next] := by
  obtain ⟨u1_1, u1_2, u2, u3, rfl, h1, h2, h3⟩ := h
  obtain ⟨a1_1, a1_2, c1_1, c1_2, e1⟩ := logg_form h1
  simp only [Value.agg.injEq, Array.mk.injEq, List.cons.injEq, and_true] at e1
  obtain ⟨rfl, rfl⟩ := e1
  obtain ⟨a2, c2, rfl⟩ := rows_form h2
  obtain ⟨a3, c3, rfl⟩ := rowss_form h3
  exact ⟨_, _, _, _, _, _, _, _, rfl⟩
theorem engn_cnt (d : Engn) : cntEngn d ≤ 4 * wtEngn d := by
  unfold cntEngn wtEngn
  have q1 := logg_cnt d.log
  have q2 := rows_cnt d.mem
  have q3 := rowss_cnt d.tables
  omega
set_option maxHeartbeats 2000000 in
theorem toEngine_u (x : Value) (d : Engn) (w : World) (hx : engnR.V w x d) (hn : wtEngn d ≤ 1048576) :
    Calls Tryz.prog 12 #[x] w fun e w' => ∃ v F, e = .returned v ∧ engnR.O w' w.heap.size F v d ∧ Below w.heap.size w w' := by
  obtain ⟨u1_1, u1_2, u2, u3, rfl, h1, h2, h3⟩ := hx
  unfold wtEngn at hn
  go_enter Tryz.func12, Tryz.ntmps12
  go_wp2_with fail
  refine (toLog_u _ d.log _ (loggR.below h1 (by (repeat (first | exact Below.refl _ _ | assumption | refine Below.drew ?_ | refine balloc ?_ _ | refine bset ?_ (by simp; omega) _ | refine bset ?_ (by simp) _ | refine bstep ?_ (by assumption))))) (by omega)).mono ?_
  rintro e w1 ⟨v1, F1, rfl, o1, b1⟩
  have hB1 : Below w.heap.size w w1 := bstep (by (repeat (first | exact Below.refl _ _ | assumption | refine Below.drew ?_ | refine balloc ?_ _ | refine bset ?_ (by simp; omega) _ | refine bset ?_ (by simp) _ | refine bstep ?_ (by assumption)))) b1
  have ofm1 := loggR.ofO o1
  obtain ⟨x1_1, x1_2, rfl, y1_1, y1_2⟩ := ofm1
  obtain ⟨a1_1, n1_1, rfl⟩ := bytes_form y1_1
  obtain ⟨a1_2, n1_2, rfl⟩ := bytes_form y1_2
  obtain ⟨c1, f1⟩ := bcell b1
  have z1 := b1.size
  simp at z1
  have l1 := fun b hb => loggR.rng o1 b hb
  simp at l1
  replace o1 := loggR.base (base' := w.heap.size + 3) o1 (by simp; try omega)
  have y0 : w1.cell? ⟨w.heap.size, 0, none⟩ = some (u1_1) := cell_keep b1 (by simp [go_sem])
  have y1 : w1.cell? ⟨w.heap.size, 1, none⟩ = some (u1_2) := cell_keep b1 (by simp [go_sem])
  have y2 : w1.cell? ⟨w.heap.size, 2, none⟩ = some (u2) := cell_keep b1 (by simp [go_sem])
  have y3 : w1.cell? ⟨w.heap.size, 3, none⟩ = some (u3) := cell_keep b1 (by simp [go_sem])
  have y4 : w1.cell? ⟨w.heap.size, 4, none⟩ = some (.int .i64 d.next) := cell_keep b1 (by simp [go_sem])
  have r0 : w1.cell? ⟨w.heap.size + 1, 0, none⟩ = some (.slice none 0 0) := cell_keep b1 (by simp [go_sem])
  have r1 : w1.cell? ⟨w.heap.size + 1, 1, none⟩ = some (.slice none 0 0) := cell_keep b1 (by simp [go_sem])
  have r2 : w1.cell? ⟨w.heap.size + 1, 2, none⟩ = some (.slice none 0 0) := cell_keep b1 (by simp [go_sem])
  have r3 : w1.cell? ⟨w.heap.size + 1, 3, none⟩ = some (.slice none 0 0) := cell_keep b1 (by simp [go_sem])
  have r4 : w1.cell? ⟨w.heap.size + 1, 4, none⟩ = some (.int .i64 0) := cell_keep b1 (by simp [go_sem])
  have s0 : w1.cell? ⟨w.heap.size + 2, 0, none⟩ = some (.slice none 0 0) := cell_keep b1 (by simp [go_sem])
  have s1 : w1.cell? ⟨w.heap.size + 2, 1, none⟩ = some (.slice none 0 0) := cell_keep b1 (by simp [go_sem])
  have s2 : w1.cell? ⟨w.heap.size + 2, 2, none⟩ = some (.slice none 0 0) := cell_keep b1 (by simp [go_sem])
  have s3 : w1.cell? ⟨w.heap.size + 2, 3, none⟩ = some (.slice none 0 0) := cell_keep b1 (by simp [go_sem])
  have s4 : w1.cell? ⟨w.heap.size + 2, 4, none⟩ = some (.int .i64 0) := cell_keep b1 (by simp [go_sem])
  have t1 : ∀ o, w1.frozen? ⟨w.heap.size + 1, o, none⟩ = false := fun o => by rw [f1 _ _ (by simp; try omega)]; simp [go_sem]
  have t2 : ∀ o, w1.frozen? ⟨w.heap.size + 2, o, none⟩ = false := fun o => by rw [f1 _ _ (by simp; try omega)]; simp [go_sem]
  clear c1 f1
  have x0 := y0
  have x1 := y1
  have x2 := y2
  have x3 := y3
  have x4 := y4
  have q0 := r0
  have q1 := r1
  have q2 := r2
  have q3 := r3
  have q4 := r4
  have p0 := s0
  have p1 := s1
  have p2 := s2
  have p3 := s3
  have p4 := s4
  have qf := t1
  have pf := t2
  clear t1 t2 y0 y1 y2 y3 y4 r0 r1 r2 r3 r4 s0 s1 s2 s3 s4
  clear b1
  go_wp2_with fail
  refine (toRowS_u _ d.mem _ (rowsR.below h2 (by (repeat (first | refine bset ?_ (by simp; omega) _ | refine bset ?_ (by simp) _ | refine balloc ?_ _ | assumption)))) (by omega)).mono ?_
  rintro e w2 ⟨v2, F2, rfl, o2, b2⟩
  have hB2 : Below w.heap.size w w2 := bstep (by (repeat (first | refine bset ?_ (by simp; omega) _ | refine bset ?_ (by simp) _ | refine balloc ?_ _ | assumption))) b2
  obtain ⟨a2, n2, rfl⟩ := rows_form (rowsR.ofO o2)
  obtain ⟨c2, f2⟩ := bcell b2
  have z2 := b2.size
  simp at z2
  have l2 := fun b hb => rowsR.rng o2 b hb
  simp at l2
  replace o2 := rowsR.base (base' := w.heap.size + 3) o2 (by simp; try omega)
  have hk1 : ∀ F v x, loggR.O w1 (w.heap.size + 3) F v x → loggR.O w2 (w.heap.size + 3) F v x := fun F v x o => loggR.keep (by (repeat (first | refine Rep.set _ ?_ _ (by simp; omega) | refine Rep.set _ ?_ _ (by simp) | refine Rep.alloc _ ?_ _ | assumption))) b2
  replace o1 := hk1 _ _ _ o1
  clear hk1
  have y0 : w2.cell? ⟨w.heap.size, 0, none⟩ = some (u1_1) := cell_keep b2 (by simp [go_sem, x0, x1, x2, x3, x4, q0, q1, q2, q3, q4, p0, p1, p2, p3, p4])
  have y1 : w2.cell? ⟨w.heap.size, 1, none⟩ = some (u1_2) := cell_keep b2 (by simp [go_sem, x0, x1, x2, x3, x4, q0, q1, q2, q3, q4, p0, p1, p2, p3, p4])
  have y2 : w2.cell? ⟨w.heap.size, 2, none⟩ = some (u2) := cell_keep b2 (by simp [go_sem, x0, x1, x2, x3, x4, q0, q1, q2, q3, q4, p0, p1, p2, p3, p4])
  have y3 : w2.cell? ⟨w.heap.size, 3, none⟩ = some (u3) := cell_keep b2 (by simp [go_sem, x0, x1, x2, x3, x4, q0, q1, q2, q3, q4, p0, p1, p2, p3, p4])
  have y4 : w2.cell? ⟨w.heap.size, 4, none⟩ = some (.int .i64 d.next) := cell_keep b2 (by simp [go_sem, x0, x1, x2, x3, x4, q0, q1, q2, q3, q4, p0, p1, p2, p3, p4])
  have r0 : w2.cell? ⟨w.heap.size + 1, 0, none⟩ = some (.slice none 0 0) := cell_keep b2 (by simp [go_sem, x0, x1, x2, x3, x4, q0, q1, q2, q3, q4, p0, p1, p2, p3, p4])
  have r1 : w2.cell? ⟨w.heap.size + 1, 1, none⟩ = some (.slice none 0 0) := cell_keep b2 (by simp [go_sem, x0, x1, x2, x3, x4, q0, q1, q2, q3, q4, p0, p1, p2, p3, p4])
  have r2 : w2.cell? ⟨w.heap.size + 1, 2, none⟩ = some (.slice none 0 0) := cell_keep b2 (by simp [go_sem, x0, x1, x2, x3, x4, q0, q1, q2, q3, q4, p0, p1, p2, p3, p4])
  have r3 : w2.cell? ⟨w.heap.size + 1, 3, none⟩ = some (.slice none 0 0) := cell_keep b2 (by simp [go_sem, x0, x1, x2, x3, x4, q0, q1, q2, q3, q4, p0, p1, p2, p3, p4])
  have r4 : w2.cell? ⟨w.heap.size + 1, 4, none⟩ = some (.int .i64 0) := cell_keep b2 (by simp [go_sem, x0, x1, x2, x3, x4, q0, q1, q2, q3, q4, p0, p1, p2, p3, p4])
  have s0 : w2.cell? ⟨w.heap.size + 2, 0, none⟩ = some (.slice a1_1 d.log.synced.length n1_1) := cell_keep b2 (by simp [go_sem, x0, x1, x2, x3, x4, q0, q1, q2, q3, q4, p0, p1, p2, p3, p4])
  have s1 : w2.cell? ⟨w.heap.size + 2, 1, none⟩ = some (.slice a1_2 d.log.loose.length n1_2) := cell_keep b2 (by simp [go_sem, x0, x1, x2, x3, x4, q0, q1, q2, q3, q4, p0, p1, p2, p3, p4])
  have s2 : w2.cell? ⟨w.heap.size + 2, 2, none⟩ = some (.slice none 0 0) := cell_keep b2 (by simp [go_sem, x0, x1, x2, x3, x4, q0, q1, q2, q3, q4, p0, p1, p2, p3, p4])
  have s3 : w2.cell? ⟨w.heap.size + 2, 3, none⟩ = some (.slice none 0 0) := cell_keep b2 (by simp [go_sem, x0, x1, x2, x3, x4, q0, q1, q2, q3, q4, p0, p1, p2, p3, p4])
  have s4 : w2.cell? ⟨w.heap.size + 2, 4, none⟩ = some (.int .i64 0) := cell_keep b2 (by simp [go_sem, x0, x1, x2, x3, x4, q0, q1, q2, q3, q4, p0, p1, p2, p3, p4])
  have t1 : ∀ o, w2.frozen? ⟨w.heap.size + 1, o, none⟩ = false := fun o => by rw [f2 _ _ (by simp; try omega)]; simp [go_sem, qf]
  have t2 : ∀ o, w2.frozen? ⟨w.heap.size + 2, o, none⟩ = false := fun o => by rw [f2 _ _ (by simp; try omega)]; simp [go_sem, pf]
  clear x0 x1 x2 x3 x4 q0 q1 q2 q3 q4 p0 p1 p2 p3 p4 qf pf
  clear c2 f2
  have x0 := y0
  have x1 := y1
  have x2 := y2
  have x3 := y3
  have x4 := y4
  have q0 := r0
  have q1 := r1
  have q2 := r2
  have q3 := r3
  have q4 := r4
  have p0 := s0
  have p1 := s1
  have p2 := s2
  have p3 := s3
  have p4 := s4
  have qf := t1
  have pf := t2
  clear t1 t2 y0 y1 y2 y3 y4 r0 r1 r2 r3 r4 s0 s1 s2 s3 s4
  clear b2 hB1
  go_wp2_with fail
  refine (toRowSS_u _ d.tables _ (rowssR.below h3 (by (repeat (first | refine bset ?_ (by simp; omega) _ | refine bset ?_ (by simp) _ | refine balloc ?_ _ | assumption)))) (by omega)).mono ?_
  rintro e w3 ⟨v3, F3, rfl, o3, b3⟩
  have hB3 : Below w.heap.size w w3 := bstep (by (repeat (first | refine bset ?_ (by simp; omega) _ | refine bset ?_ (by simp) _ | refine balloc ?_ _ | assumption))) b3
  obtain ⟨a3, n3, rfl⟩ := rowss_form (rowssR.ofO o3)
  obtain ⟨c3, f3⟩ := bcell b3
  have z3 := b3.size
  simp at z3
  have l3 := fun b hb => rowssR.rng o3 b hb
  simp at l3
  replace o3 := rowssR.base (base' := w.heap.size + 3) o3 (by simp; try omega)
  have hk1 : ∀ F v x, loggR.O w2 (w.heap.size + 3) F v x → loggR.O w3 (w.heap.size + 3) F v x := fun F v x o => loggR.keep (by (repeat (first | refine Rep.set _ ?_ _ (by simp; omega) | refine Rep.set _ ?_ _ (by simp) | refine Rep.alloc _ ?_ _ | assumption))) b3
  replace o1 := hk1 _ _ _ o1
  clear hk1
  have hk2 : ∀ F v x, rowsR.O w2 (w.heap.size + 3) F v x → rowsR.O w3 (w.heap.size + 3) F v x := fun F v x o => rowsR.keep (by (repeat (first | refine Rep.set _ ?_ _ (by simp; omega) | refine Rep.set _ ?_ _ (by simp) | refine Rep.alloc _ ?_ _ | assumption))) b3
  replace o2 := hk2 _ _ _ o2
  clear hk2
  have y0 : w3.cell? ⟨w.heap.size, 0, none⟩ = some (u1_1) := cell_keep b3 (by simp [go_sem, x0, x1, x2, x3, x4, q0, q1, q2, q3, q4, p0, p1, p2, p3, p4])
  have y1 : w3.cell? ⟨w.heap.size, 1, none⟩ = some (u1_2) := cell_keep b3 (by simp [go_sem, x0, x1, x2, x3, x4, q0, q1, q2, q3, q4, p0, p1, p2, p3, p4])
  have y2 : w3.cell? ⟨w.heap.size, 2, none⟩ = some (u2) := cell_keep b3 (by simp [go_sem, x0, x1, x2, x3, x4, q0, q1, q2, q3, q4, p0, p1, p2, p3, p4])
  have y3 : w3.cell? ⟨w.heap.size, 3, none⟩ = some (u3) := cell_keep b3 (by simp [go_sem, x0, x1, x2, x3, x4, q0, q1, q2, q3, q4, p0, p1, p2, p3, p4])
  have y4 : w3.cell? ⟨w.heap.size, 4, none⟩ = some (.int .i64 d.next) := cell_keep b3 (by simp [go_sem, x0, x1, x2, x3, x4, q0, q1, q2, q3, q4, p0, p1, p2, p3, p4])
  have r0 : w3.cell? ⟨w.heap.size + 1, 0, none⟩ = some (.slice none 0 0) := cell_keep b3 (by simp [go_sem, x0, x1, x2, x3, x4, q0, q1, q2, q3, q4, p0, p1, p2, p3, p4])
  have r1 : w3.cell? ⟨w.heap.size + 1, 1, none⟩ = some (.slice none 0 0) := cell_keep b3 (by simp [go_sem, x0, x1, x2, x3, x4, q0, q1, q2, q3, q4, p0, p1, p2, p3, p4])
  have r2 : w3.cell? ⟨w.heap.size + 1, 2, none⟩ = some (.slice none 0 0) := cell_keep b3 (by simp [go_sem, x0, x1, x2, x3, x4, q0, q1, q2, q3, q4, p0, p1, p2, p3, p4])
  have r3 : w3.cell? ⟨w.heap.size + 1, 3, none⟩ = some (.slice none 0 0) := cell_keep b3 (by simp [go_sem, x0, x1, x2, x3, x4, q0, q1, q2, q3, q4, p0, p1, p2, p3, p4])
  have r4 : w3.cell? ⟨w.heap.size + 1, 4, none⟩ = some (.int .i64 0) := cell_keep b3 (by simp [go_sem, x0, x1, x2, x3, x4, q0, q1, q2, q3, q4, p0, p1, p2, p3, p4])
  have s0 : w3.cell? ⟨w.heap.size + 2, 0, none⟩ = some (.slice a1_1 d.log.synced.length n1_1) := cell_keep b3 (by simp [go_sem, x0, x1, x2, x3, x4, q0, q1, q2, q3, q4, p0, p1, p2, p3, p4])
  have s1 : w3.cell? ⟨w.heap.size + 2, 1, none⟩ = some (.slice a1_2 d.log.loose.length n1_2) := cell_keep b3 (by simp [go_sem, x0, x1, x2, x3, x4, q0, q1, q2, q3, q4, p0, p1, p2, p3, p4])
  have s2 : w3.cell? ⟨w.heap.size + 2, 2, none⟩ = some (.slice a2 d.mem.length n2) := cell_keep b3 (by simp [go_sem, x0, x1, x2, x3, x4, q0, q1, q2, q3, q4, p0, p1, p2, p3, p4])
  have s3 : w3.cell? ⟨w.heap.size + 2, 3, none⟩ = some (.slice none 0 0) := cell_keep b3 (by simp [go_sem, x0, x1, x2, x3, x4, q0, q1, q2, q3, q4, p0, p1, p2, p3, p4])
  have s4 : w3.cell? ⟨w.heap.size + 2, 4, none⟩ = some (.int .i64 0) := cell_keep b3 (by simp [go_sem, x0, x1, x2, x3, x4, q0, q1, q2, q3, q4, p0, p1, p2, p3, p4])
  have t1 : ∀ o, w3.frozen? ⟨w.heap.size + 1, o, none⟩ = false := fun o => by rw [f3 _ _ (by simp; try omega)]; simp [go_sem, qf]
  have t2 : ∀ o, w3.frozen? ⟨w.heap.size + 2, o, none⟩ = false := fun o => by rw [f3 _ _ (by simp; try omega)]; simp [go_sem, pf]
  clear x0 x1 x2 x3 x4 q0 q1 q2 q3 q4 p0 p1 p2 p3 p4 qf pf
  clear c3 f3
  have x0 := y0
  have x1 := y1
  have x2 := y2
  have x3 := y3
  have x4 := y4
  have q0 := r0
  have q1 := r1
  have q2 := r2
  have q3 := r3
  have q4 := r4
  have p0 := s0
  have p1 := s1
  have p2 := s2
  have p3 := s3
  have p4 := s4
  have qf := t1
  have pf := t2
  clear t1 t2 y0 y1 y2 y3 y4 r0 r1 r2 r3 r4 s0 s1 s2 s3 s4
  clear b3 hB2
  go_wp2
  refine bodyPost_ret (v := .agg #[.slice a1_1 d.log.synced.length n1_1, .slice a1_2 d.log.loose.length n1_2, .slice a2 d.mem.length n2, .slice a3 d.tables.length n3, .int .i64 d.next]) ?_ rfl ⟨_, fun b => F1 b ∨ F2 b ∨ F3 b, rfl, ⟨_, _, _, _, F1, F2, F3, rfl, loggR.base (base := w.heap.size + 3) (by (repeat (first | refine Rep.set _ ?_ _ (by simp; omega) | refine Rep.set _ ?_ _ (by simp) | refine Rep.alloc _ ?_ _ | assumption))) (by omega), rowsR.base (base := w.heap.size + 3) (by (repeat (first | refine Rep.set _ ?_ _ (by simp; omega) | refine Rep.set _ ?_ _ (by simp) | refine Rep.alloc _ ?_ _ | assumption))) (by omega), rowssR.base (base := w.heap.size + 3) (by (repeat (first | refine Rep.set _ ?_ _ (by simp; omega) | refine Rep.set _ ?_ _ (by simp) | refine Rep.alloc _ ?_ _ | assumption))) (by omega), fun b p q => by have := (l1 b p).2; have := (l2 b q).1; omega, fun b p q => by have := (l1 b p).2; have := (l3 b q).1; omega, fun b p q => by have := (l2 b p).2; have := (l3 b q).1; omega, fun b => Iff.rfl⟩, by (repeat (first | refine bset ?_ (by simp; omega) _ | refine bset ?_ (by simp) _ | refine balloc ?_ _ | assumption))⟩
  simp [results, Tryz.results12, go_sem, q0, q1, q2, q3, q4, p0, p1, p2, p3, p4, qf, pf]
set_option maxHeartbeats 1000000 in
theorem szEngine_u (x : Value) (d : Engn) (left : Int) (w : World) (hx : engnR.V w x d) (h0 : 0 ≤ left) (h1 : left ≤ 1048576) :
    Calls Tryz.prog 10 #[x, .int .i64 left] w fun e w' => e = .returned (.int .i64 (szLen left (wtEngn d))) ∧ Below w.heap.size w w' := by
  obtain ⟨u1_1, u1_2, u2, u3, rfl, k1, k2, k3⟩ := hx
  go_enter Tryz.func10, Tryz.ntmps10
  go_wp2_with fail
  refine (szLog_u _ d.log left _ (loggR.below k1 (by (repeat (first | exact Below.refl _ _ | assumption | refine Below.drew ?_ | refine balloc ?_ _ | refine bset ?_ (by simp; omega) _ | refine bset ?_ (by simp) _ | refine bstep ?_ (by assumption))))) h0 h1).mono ?_
  rintro e w1 ⟨rfl, b1⟩
  have x0 : w1.cell? ⟨w.heap.size, 0, none⟩ = some (u1_1) := cell_keep b1 (by simp [go_sem])
  have x1 : w1.cell? ⟨w.heap.size, 1, none⟩ = some (u1_2) := cell_keep b1 (by simp [go_sem])
  have x2 : w1.cell? ⟨w.heap.size, 2, none⟩ = some (u2) := cell_keep b1 (by simp [go_sem])
  have x3 : w1.cell? ⟨w.heap.size, 3, none⟩ = some (u3) := cell_keep b1 (by simp [go_sem])
  have x4 : w1.cell? ⟨w.heap.size, 4, none⟩ = some (.int .i64 d.next) := cell_keep b1 (by simp [go_sem])
  go_wp2_with fail
  · rename_i h
    go_ret
    refine ⟨?_, by (repeat (first | exact Below.refl _ _ | assumption | refine Below.drew ?_ | refine balloc ?_ _ | refine bset ?_ (by simp; omega) _ | refine bset ?_ (by simp) _ | refine bstep ?_ (by assumption)))⟩
    rw [szLen_neg (n := wtLogg d.log) (by omega) (wtEngn d) (by unfold wtEngn; omega)]
    rfl
  rename_i h
  refine (szRowS_u _ d.mem (szLen left (wtLogg d.log : Nat)) _ (rowsR.below k2 (by (repeat (first | exact Below.refl _ _ | assumption | refine Below.drew ?_ | refine balloc ?_ _ | refine bset ?_ (by simp; omega) _ | refine bset ?_ (by simp) _ | refine bstep ?_ (by assumption))))) (by omega) (by have := szLen_le (n := wtLogg d.log) h0; omega)).mono ?_
  rintro e w2 ⟨rfl, b2⟩
  replace x0 : w2.cell? ⟨w.heap.size, 0, none⟩ = some (u1_1) := cell_keep b2 x0
  replace x1 : w2.cell? ⟨w.heap.size, 1, none⟩ = some (u1_2) := cell_keep b2 x1
  replace x2 : w2.cell? ⟨w.heap.size, 2, none⟩ = some (u2) := cell_keep b2 x2
  replace x3 : w2.cell? ⟨w.heap.size, 3, none⟩ = some (u3) := cell_keep b2 x3
  replace x4 : w2.cell? ⟨w.heap.size, 4, none⟩ = some (.int .i64 d.next) := cell_keep b2 x4
  rw [szLen_add (n := wtLogg d.log) (by omega)]
  go_wp2_with fail
  · rename_i h
    go_ret
    refine ⟨?_, by (repeat (first | exact Below.refl _ _ | assumption | refine Below.drew ?_ | refine balloc ?_ _ | refine bset ?_ (by simp; omega) _ | refine bset ?_ (by simp) _ | refine bstep ?_ (by assumption)))⟩
    rw [szLen_neg (n := wtLogg d.log + wtRows d.mem) (by first | omega | (rw [Int.natCast_add]; omega)) (wtEngn d) (by unfold wtEngn; omega)]
    rfl
  rename_i h
  refine (szRowSS_u _ d.tables (szLen left (wtLogg d.log + wtRows d.mem : Nat)) _ (rowssR.below k3 (by (repeat (first | exact Below.refl _ _ | assumption | refine Below.drew ?_ | refine balloc ?_ _ | refine bset ?_ (by simp; omega) _ | refine bset ?_ (by simp) _ | refine bstep ?_ (by assumption))))) (by first | omega | (simp only [Int.natCast_add] at *; omega)) (by have := szLen_le (n := wtLogg d.log + wtRows d.mem) h0; omega)).mono ?_
  rintro e w3 ⟨rfl, b3⟩
  rw [szLen_add (n := wtLogg d.log + wtRows d.mem) (by first | omega | (simp only [Int.natCast_add] at *; omega))]
  go_wp2
  · rename_i h
    go_ret
    refine ⟨?_, by (repeat (first | exact Below.refl _ _ | assumption | refine Below.drew ?_ | refine balloc ?_ _ | refine bset ?_ (by simp; omega) _ | refine bset ?_ (by simp) _ | refine bstep ?_ (by assumption)))⟩
    rw [szLen_neg (n := wtLogg d.log + wtRows d.mem + wtRowss d.tables) (by first | omega | (simp only [Int.natCast_add] at *; omega)) (wtEngn d) (by unfold wtEngn; omega)]
    rfl
  rename_i h
  go_ret
  exact ⟨rfl, by (repeat (first | exact Below.refl _ _ | assumption | refine Below.drew ?_ | refine balloc ?_ _ | refine bset ?_ (by simp; omega) _ | refine bset ?_ (by simp) _ | refine bstep ?_ (by assumption)))⟩
set_option maxHeartbeats 1000000 in
theorem eqEngine_u (x y : Value) (d d' : Engn) (w : World) (hx : engnR.V w x d) (hy : engnR.V w y d') :
    Calls Tryz.prog 14 #[x, y] w fun e w' => e = .returned (.bool (decide (d = d'))) ∧ Below w.heap.size w w' := by
  obtain ⟨u1_1, u1_2, u2, u3, rfl, h1, h2, h3⟩ := hx
  obtain ⟨v1_1, v1_2, v2, v3, rfl, k1, k2, k3⟩ := hy
  obtain ⟨log, mem, tables, next⟩ := d
  obtain ⟨log', mem', tables', next'⟩ := d'
  dsimp only at h1 k1 h2 k2 h3 k3
  go_enter Tryz.func14, Tryz.ntmps14
  go_wp2_with fail
  all_goals try (go_ret; exact ⟨by simp_all, by (repeat (first | exact Below.refl _ _ | assumption | refine Below.drew ?_ | refine balloc ?_ _ | refine bset ?_ (by simp; omega) _ | refine bset ?_ (by simp) _ | refine bstep ?_ (by assumption)))⟩)
  refine (eqLog_u _ _ log log' _ (loggR.below h1 (by (repeat (first | exact Below.refl _ _ | assumption | refine Below.drew ?_ | refine balloc ?_ _ | refine bset ?_ (by simp; omega) _ | refine bset ?_ (by simp) _ | refine bstep ?_ (by assumption))))) (loggR.below k1 (by (repeat (first | exact Below.refl _ _ | assumption | refine Below.drew ?_ | refine balloc ?_ _ | refine bset ?_ (by simp; omega) _ | refine bset ?_ (by simp) _ | refine bstep ?_ (by assumption)))))).mono ?_
  rintro e w1 ⟨rfl, b1⟩
  have x0 : w1.cell? ⟨w.heap.size, 0, none⟩ = some (u1_1) := cell_keep b1 (by simp [go_sem])
  have x1 : w1.cell? ⟨w.heap.size, 1, none⟩ = some (u1_2) := cell_keep b1 (by simp [go_sem])
  have x2 : w1.cell? ⟨w.heap.size, 2, none⟩ = some (u2) := cell_keep b1 (by simp [go_sem])
  have x3 : w1.cell? ⟨w.heap.size, 3, none⟩ = some (u3) := cell_keep b1 (by simp [go_sem])
  have x4 : w1.cell? ⟨w.heap.size, 4, none⟩ = some (.int .i64 next) := cell_keep b1 (by simp [go_sem])
  have y0 : w1.cell? ⟨w.heap.size + 1, 0, none⟩ = some (v1_1) := cell_keep b1 (by simp [go_sem])
  have y1 : w1.cell? ⟨w.heap.size + 1, 1, none⟩ = some (v1_2) := cell_keep b1 (by simp [go_sem])
  have y2 : w1.cell? ⟨w.heap.size + 1, 2, none⟩ = some (v2) := cell_keep b1 (by simp [go_sem])
  have y3 : w1.cell? ⟨w.heap.size + 1, 3, none⟩ = some (v3) := cell_keep b1 (by simp [go_sem])
  have y4 : w1.cell? ⟨w.heap.size + 1, 4, none⟩ = some (.int .i64 next') := cell_keep b1 (by simp [go_sem])
  go_wp2_with fail
  all_goals try (go_ret; exact ⟨by simp_all, by (repeat (first | exact Below.refl _ _ | assumption | refine Below.drew ?_ | refine balloc ?_ _ | refine bset ?_ (by simp; omega) _ | refine bset ?_ (by simp) _ | refine bstep ?_ (by assumption)))⟩)
  refine (eqRowS_u _ _ mem mem' _ (rowsR.below h2 (by (repeat (first | exact Below.refl _ _ | assumption | refine Below.drew ?_ | refine balloc ?_ _ | refine bset ?_ (by simp; omega) _ | refine bset ?_ (by simp) _ | refine bstep ?_ (by assumption))))) (rowsR.below k2 (by (repeat (first | exact Below.refl _ _ | assumption | refine Below.drew ?_ | refine balloc ?_ _ | refine bset ?_ (by simp; omega) _ | refine bset ?_ (by simp) _ | refine bstep ?_ (by assumption)))))).mono ?_
  rintro e w2 ⟨rfl, b2⟩
  replace x0 : w2.cell? ⟨w.heap.size, 0, none⟩ = some (u1_1) := cell_keep b2 x0
  replace x1 : w2.cell? ⟨w.heap.size, 1, none⟩ = some (u1_2) := cell_keep b2 x1
  replace x2 : w2.cell? ⟨w.heap.size, 2, none⟩ = some (u2) := cell_keep b2 x2
  replace x3 : w2.cell? ⟨w.heap.size, 3, none⟩ = some (u3) := cell_keep b2 x3
  replace x4 : w2.cell? ⟨w.heap.size, 4, none⟩ = some (.int .i64 next) := cell_keep b2 x4
  replace y0 : w2.cell? ⟨w.heap.size + 1, 0, none⟩ = some (v1_1) := cell_keep b2 y0
  replace y1 : w2.cell? ⟨w.heap.size + 1, 1, none⟩ = some (v1_2) := cell_keep b2 y1
  replace y2 : w2.cell? ⟨w.heap.size + 1, 2, none⟩ = some (v2) := cell_keep b2 y2
  replace y3 : w2.cell? ⟨w.heap.size + 1, 3, none⟩ = some (v3) := cell_keep b2 y3
  replace y4 : w2.cell? ⟨w.heap.size + 1, 4, none⟩ = some (.int .i64 next') := cell_keep b2 y4
  go_wp2_with fail
  all_goals try (go_ret; exact ⟨by simp_all, by (repeat (first | exact Below.refl _ _ | assumption | refine Below.drew ?_ | refine balloc ?_ _ | refine bset ?_ (by simp; omega) _ | refine bset ?_ (by simp) _ | refine bstep ?_ (by assumption)))⟩)
  refine (eqRowSS_u _ _ tables tables' _ (rowssR.below h3 (by (repeat (first | exact Below.refl _ _ | assumption | refine Below.drew ?_ | refine balloc ?_ _ | refine bset ?_ (by simp; omega) _ | refine bset ?_ (by simp) _ | refine bstep ?_ (by assumption))))) (rowssR.below k3 (by (repeat (first | exact Below.refl _ _ | assumption | refine Below.drew ?_ | refine balloc ?_ _ | refine bset ?_ (by simp; omega) _ | refine bset ?_ (by simp) _ | refine bstep ?_ (by assumption)))))).mono ?_
  rintro e w3 ⟨rfl, b3⟩
  replace x0 : w3.cell? ⟨w.heap.size, 0, none⟩ = some (u1_1) := cell_keep b3 x0
  replace x1 : w3.cell? ⟨w.heap.size, 1, none⟩ = some (u1_2) := cell_keep b3 x1
  replace x2 : w3.cell? ⟨w.heap.size, 2, none⟩ = some (u2) := cell_keep b3 x2
  replace x3 : w3.cell? ⟨w.heap.size, 3, none⟩ = some (u3) := cell_keep b3 x3
  replace x4 : w3.cell? ⟨w.heap.size, 4, none⟩ = some (.int .i64 next) := cell_keep b3 x4
  replace y0 : w3.cell? ⟨w.heap.size + 1, 0, none⟩ = some (v1_1) := cell_keep b3 y0
  replace y1 : w3.cell? ⟨w.heap.size + 1, 1, none⟩ = some (v1_2) := cell_keep b3 y1
  replace y2 : w3.cell? ⟨w.heap.size + 1, 2, none⟩ = some (v2) := cell_keep b3 y2
  replace y3 : w3.cell? ⟨w.heap.size + 1, 3, none⟩ = some (v3) := cell_keep b3 y3
  replace y4 : w3.cell? ⟨w.heap.size + 1, 4, none⟩ = some (.int .i64 next') := cell_keep b3 y4
  go_wp2
  all_goals
    go_ret
    exact ⟨by simp_all, by (repeat (first | exact Below.refl _ _ | assumption | refine Below.drew ?_ | refine balloc ?_ _ | refine bset ?_ (by simp; omega) _ | refine bset ?_ (by simp) _ | refine bstep ?_ (by assumption)))⟩
set_option maxHeartbeats 1000000 in
theorem markEngine_u (v : Value) (d : Engn) (base : Nat) (F : Nat → Prop) (k : Int) (w : World) (ho : engnR.O w base F v d) (hw : wtEngn d ≤ 1048576) (hn : k + cntEngn d ≤ 1073741824) (hk0 : 0 ≤ k) :
    Calls Tryz.prog 21 #[v, .int .i64 k] w fun r w' => r = .returned (.int .i64 (k + cntEngn d)) ∧ engnR.O w' base F v (mkEngn k d) ∧ Mod F w w' := by
  obtain ⟨u1_1, u1_2, u2, u3, F1, F2, F3, rfl, h1, h2, h3, s12, s13, s23, hF⟩ := ho
  unfold wtEngn at hw
  unfold cntEngn at hn ⊢
  have HF : Hid (∀ b, F b ↔ (F1 b ∨ F2 b ∨ F3 b)) := hF
  clear hF
  go_enter Tryz.func21, Tryz.ntmps21
  go_wp2_with fail
  refine (markLog_u _ d.log base F1 k _ (loggR.alloc h1 _) (by omega) (by omega) (by omega)).mono ?_
  rintro e w1 ⟨rfl, r1, m1⟩
  have h2' := rowsR.mod (rowsR.alloc h2 _) m1 (fun b p q => s12 b q p)
  have h3' := rowssR.mod (rowssR.alloc h3 _) m1 (fun b p q => s13 b q p)
  have x0 : w1.cell? ⟨w.heap.size, 0, none⟩ = some (u1_1) := m1.cell (by simp [go_sem]) (fun hf => by have := loggR.rng h1 _ hf; dsimp only at this; omega)
  have x1 : w1.cell? ⟨w.heap.size, 1, none⟩ = some (u1_2) := m1.cell (by simp [go_sem]) (fun hf => by have := loggR.rng h1 _ hf; dsimp only at this; omega)
  have x2 : w1.cell? ⟨w.heap.size, 2, none⟩ = some (u2) := m1.cell (by simp [go_sem]) (fun hf => by have := loggR.rng h1 _ hf; dsimp only at this; omega)
  have x3 : w1.cell? ⟨w.heap.size, 3, none⟩ = some (u3) := m1.cell (by simp [go_sem]) (fun hf => by have := loggR.rng h1 _ hf; dsimp only at this; omega)
  have x4 : w1.cell? ⟨w.heap.size, 4, none⟩ = some (.int .i64 d.next) := m1.cell (by simp [go_sem]) (fun hf => by have := loggR.rng h1 _ hf; dsimp only at this; omega)
  go_wp2_with fail
  refine (markRowS_u _ d.mem base F2 (k + cntLogg d.log) _ h2' (by omega) (by omega) (by omega)).mono ?_
  rintro e w2 ⟨rfl, r2, m2⟩
  have h3'' := rowssR.mod h3' m2 (fun b p q => s23 b q p)
  replace x0 : w2.cell? ⟨w.heap.size, 0, none⟩ = some (u1_1) := m2.cell x0 (fun hf => by have := rowsR.rng h2 _ hf; dsimp only at this; omega)
  replace x1 : w2.cell? ⟨w.heap.size, 1, none⟩ = some (u1_2) := m2.cell x1 (fun hf => by have := rowsR.rng h2 _ hf; dsimp only at this; omega)
  replace x2 : w2.cell? ⟨w.heap.size, 2, none⟩ = some (u2) := m2.cell x2 (fun hf => by have := rowsR.rng h2 _ hf; dsimp only at this; omega)
  replace x3 : w2.cell? ⟨w.heap.size, 3, none⟩ = some (u3) := m2.cell x3 (fun hf => by have := rowsR.rng h2 _ hf; dsimp only at this; omega)
  replace x4 : w2.cell? ⟨w.heap.size, 4, none⟩ = some (.int .i64 d.next) := m2.cell x4 (fun hf => by have := rowsR.rng h2 _ hf; dsimp only at this; omega)
  replace r1 := loggR.mod r1 m2 (fun b p q => s12 b p q)
  go_wp2_with fail
  refine (markRowSS_u _ d.tables base F3 (k + cntLogg d.log + cntRows d.mem) _ h3'' (by omega) (by omega) (by omega)).mono ?_
  rintro e w3 ⟨rfl, r3, m3⟩
  replace r1 := loggR.mod r1 m3 (fun b p q => s13 b p q)
  replace r2 := rowsR.mod r2 m3 (fun b p q => s23 b p q)
  go_wp2
  go_ret
  refine ⟨?_, ⟨_, _, _, _, F1, F2, F3, rfl, r1, r2, r3, s12, s13, s23, HF.out⟩, ((((Mod.refl F w).alloc _).trans (m1.mono (fun b hb => (HF.out b).2 (.inl hb)))).trans (m2.mono (fun b hb => (HF.out b).2 (.inr (.inl hb))))).trans (m3.mono (fun b hb => (HF.out b).2 (.inr (.inr hb))))⟩
  simp
  try omega
set_option maxHeartbeats 1000000 in
theorem heldEngine_u (v : Value) (d : Engn) (k : Int) (w : World) (hv : engnR.V w v (mkEngn k d)) (hw : wtEngn d ≤ 1048576) (hn : k + cntEngn d ≤ 1073741824) (hk0 : 0 ≤ k) :
    Calls Tryz.prog 85 #[v, .int .i64 k] w fun r w' => r = .returned (.int .i64 (k + cntEngn d)) ∧ Below w.heap.size w w' := by
  obtain ⟨u1_1, u1_2, u2, u3, rfl, h1, h2, h3⟩ := hv
  unfold wtEngn at hw
  unfold cntEngn at hn ⊢
  go_enter Tryz.func85, Tryz.ntmps85
  go_wp2_with fail
  refine (heldLog_u _ d.log k _ (loggR.below h1 (by (repeat (first | exact Below.refl _ _ | assumption | refine Below.drew ?_ | refine balloc ?_ _ | refine bset ?_ (by simp; omega) _ | refine bset ?_ (by simp) _ | refine bstep ?_ (by assumption))))) (by omega) (by omega) (by omega)).mono ?_
  rintro e w1 ⟨rfl, b1⟩
  have x0 : w1.cell? ⟨w.heap.size, 0, none⟩ = some (u1_1) := cell_keep b1 (by simp [go_sem, mkEngn])
  have x1 : w1.cell? ⟨w.heap.size, 1, none⟩ = some (u1_2) := cell_keep b1 (by simp [go_sem, mkEngn])
  have x2 : w1.cell? ⟨w.heap.size, 2, none⟩ = some (u2) := cell_keep b1 (by simp [go_sem, mkEngn])
  have x3 : w1.cell? ⟨w.heap.size, 3, none⟩ = some (u3) := cell_keep b1 (by simp [go_sem, mkEngn])
  have x4 : w1.cell? ⟨w.heap.size, 4, none⟩ = some (.int .i64 d.next) := cell_keep b1 (by simp [go_sem, mkEngn])
  go_wp2_with fail
  refine (heldRowS_u _ d.mem (k + cntLogg d.log) _ (rowsR.below h2 (by (repeat (first | exact Below.refl _ _ | assumption | refine Below.drew ?_ | refine balloc ?_ _ | refine bset ?_ (by simp; omega) _ | refine bset ?_ (by simp) _ | refine bstep ?_ (by assumption))))) (by omega) (by omega) (by omega)).mono ?_
  rintro e w2 ⟨rfl, b2⟩
  replace x0 : w2.cell? ⟨w.heap.size, 0, none⟩ = some (u1_1) := cell_keep b2 x0
  replace x1 : w2.cell? ⟨w.heap.size, 1, none⟩ = some (u1_2) := cell_keep b2 x1
  replace x2 : w2.cell? ⟨w.heap.size, 2, none⟩ = some (u2) := cell_keep b2 x2
  replace x3 : w2.cell? ⟨w.heap.size, 3, none⟩ = some (u3) := cell_keep b2 x3
  replace x4 : w2.cell? ⟨w.heap.size, 4, none⟩ = some (.int .i64 d.next) := cell_keep b2 x4
  go_wp2_with fail
  refine (heldRowSS_u _ d.tables (k + cntLogg d.log + cntRows d.mem) _ (rowssR.below h3 (by (repeat (first | exact Below.refl _ _ | assumption | refine Below.drew ?_ | refine balloc ?_ _ | refine bset ?_ (by simp; omega) _ | refine bset ?_ (by simp) _ | refine bstep ?_ (by assumption))))) (by omega) (by omega) (by omega)).mono ?_
  rintro e w3 ⟨rfl, b3⟩
  go_wp2
  go_ret
  refine ⟨?_, by (repeat (first | exact Below.refl _ _ | assumption | refine Below.drew ?_ | refine balloc ?_ _ | refine bset ?_ (by simp; omega) _ | refine bset ?_ (by simp) _ | refine bstep ?_ (by assumption)))⟩
  simp
  try omega
end Go.Proofs.YtdfapehonegeeaaGreat

