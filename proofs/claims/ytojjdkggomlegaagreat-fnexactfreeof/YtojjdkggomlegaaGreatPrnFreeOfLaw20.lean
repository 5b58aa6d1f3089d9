import Derived.Test.YtojjdkggomlegaaGreatPrnFreeOfLaw19
import Derived.BigQuiet
import Derived.Deep.QuietTactic
import Derived.Deep.RegionHeld3
import Derived.Test.YtojjdkggomlegaaGreatPrnFreeOfLaw9
import Derived.DeepKeys
import Derived.Test.YtojjdkggomlegaaGreatPrnFreeOfLaw15
import Derived.Test.YtojjdkggomlegaaGreatPrnFreeOfLaw2

/-
  InDoubt.
-/
set_option linter.unusedSimpArgs false
set_option linter.unusedVariables false
namespace Go.Proofs.YtojjdkggomlegaaGreat
open Go.RowKit
set_option linter.unusedSectionVars false
variable [DecidableEq Rw] [Inhabited Rw] [DecidableEq Bal] [Inhabited Bal] [DecidableEq Ledg] [Inhabited Ledg] [DecidableEq Leg] [Inhabited Leg] [DecidableEq Cont] [Inhabited Cont] [DecidableEq LedgR] [Inhabited LedgR] [DecidableEq OutcR] [Inhabited OutcR] [DecidableEq Mrk] [Inhabited Mrk] [DecidableEq Shd] [Inhabited Shd] [DecidableEq ShdR] [Inhabited ShdR] [DecidableEq IntsR] [Inhabited IntsR]
attribute [local go_sem ↓] Go.wp_at_zero Go.wp_at_succ

theorem shdF_ok {d : Shd} (h : shdF d = 0) : listsF d = 0 := by
  unfold shdF at h
  split at h
  · assumption
  · exact h
end Go.Proofs.YtojjdkggomlegaaGreat

/-
  What is free: the mathematics, keys compared.
-/
set_option linter.unusedSimpArgs false
set_option linter.unusedVariables false
namespace Go.Proofs.YtojjdkggomlegaaGreat
open Go.RowKit
set_option linter.unusedSectionVars false
variable [DecidableEq Rw] [Inhabited Rw] [DecidableEq Bal] [Inhabited Bal] [DecidableEq Ledg] [Inhabited Ledg] [DecidableEq Leg] [Inhabited Leg] [DecidableEq Cont] [Inhabited Cont] [DecidableEq LedgR] [Inhabited LedgR] [DecidableEq OutcR] [Inhabited OutcR] [DecidableEq Mrk] [Inhabited Mrk] [DecidableEq Shd] [Inhabited Shd] [DecidableEq ShdR] [Inhabited ShdR] [DecidableEq IntsR] [Inhabited IntsR]
attribute [local go_sem ↓] Go.wp_at_zero Go.wp_at_succ

def cutL (a t : Int) (l : Leg) : Int := if l.ac = a ∧ l.ast = t then (if 0 < l.am then 0 else l.am) else 0
def cutI (s a t : Int) (l : Leg) : Int := if (l.sh = s ∧ l.ac = a ∧ l.ast = t) ∧ l.am < 0 then l.am else 0
def sumT (f : Leg → Int) (ls : List Leg) (k : Nat) : Int := ((ls.take k).map f).sum
def freeL (a t : Int) (ls : List Leg) : Int := (ls.map (cutL a t)).sum
def freeK (d : Shd) (a t : Int) : Nat → Int
  | 0 => 0
  | k + 1 => freeK d a t k + freeL a t (legsH d k)
theorem sumT_zero (f : Leg → Int) (ls : List Leg) : sumT f ls 0 = 0 := by simp [sumT]
theorem sumT_succ {f : Leg → Int} {ls : List Leg} {k : Nat} (hk : k < ls.length) : sumT f ls (k + 1) = sumT f ls k + f (ls.getD k default) := by
  have e : ls.take (k + 1) = ls.take k ++ [ls.getD k default] := by rw [List.take_add_one]; simp [List.getD, hk]
  unfold sumT
  rw [e, List.map_append, List.sum_append]
  simp
theorem sumT_all (f : Leg → Int) (ls : List Leg) : sumT f ls ls.length = (ls.map f).sum := by unfold sumT; rw [List.take_length]
theorem sumT_le {f : Leg → Int} {ls : List Leg} (h : ∀ j, j < ls.length → -1000000000000 ≤ f (ls.getD j default) ∧ f (ls.getD j default) ≤ 0) : ∀ k, k ≤ ls.length → -(1000000000000 * (k : Int)) ≤ sumT f ls k ∧ sumT f ls k ≤ 0
  | 0, _ => by rw [sumT_zero]; omega
  | k + 1, hk => by
    have h1 := sumT_le h k (by omega)
    have h2 := h k (by omega)
    rw [sumT_succ (by omega)]
    omega
theorem freeL_on (s a t : Int) : ∀ ls : List Leg, (ls.map (cutI s a t)).sum = freeL a t (onSh s ls)
  | [] => rfl
  | l :: r => by
    have ih := freeL_on s a t r
    unfold freeL at ih ⊢
    unfold onSh at ih ⊢
    by_cases h : l.sh = s
    · rw [List.filter_cons_of_pos (by simp [h]), List.map_cons, List.map_cons, List.sum_cons, List.sum_cons, ih]
      congr 1
      unfold cutI cutL
      by_cases h2 : l.ac = a ∧ l.ast = t
      · rw [if_pos h2]
        by_cases h3 : l.am < 0
        · rw [if_pos ⟨⟨h, h2.1, h2.2⟩, h3⟩, if_neg (by omega)]
        · rw [if_neg (fun h4 => h3 h4.2)]
          by_cases h5 : 0 < l.am
          · rw [if_pos h5]
          · rw [if_neg h5]; omega
      · rw [if_neg h2, if_neg (fun h4 => h2 h4.1.2)]
    · rw [List.filter_cons_of_neg (by simp [h]), List.map_cons, List.sum_cons, ih]
      have : cutI s a t l = 0 := by unfold cutI; rw [if_neg (fun h4 => h h4.1.1)]
      omega
theorem cutL_le {a t : Int} {l : Leg} (h : -1000000000000 ≤ l.am ∧ l.am ≤ 1000000000000) : -1000000000000 ≤ cutL a t l ∧ cutL a t l ≤ 0 := by
  unfold cutL
  split
  · split <;> omega
  · omega
theorem cutI_le {s a t : Int} {l : Leg} (h : -1000000000000 ≤ l.am ∧ l.am ≤ 1000000000000) : -1000000000000 ≤ cutI s a t l ∧ cutI s a t l ≤ 0 := by
  unfold cutI
  split <;> omega
theorem legsH_len {d : Shd} (h : HeldOk d) {k : Nat} (hk : k < d.held.length) : (legsH d k).length ≤ 8 := Nat.le_trans (List.length_filter_le _ _) (h.len hk)
theorem freeL_le {d : Shd} (h : HeldOk d) (a t : Int) {k : Nat} (hk : k < d.held.length) : -8000000000000 ≤ freeL a t (legsH d k) ∧ freeL a t (legsH d k) ≤ 0 := by
  have h1 := sumT_le (f := cutL a t) (fun j hj => cutL_le (h.small hk j hj)) (legsH d k).length (Nat.le_refl _)
  rw [sumT_all] at h1
  have h2 := legsH_len h hk
  unfold freeL
  omega
theorem freeK_le {d : Shd} (h : HeldOk d) (a t : Int) : ∀ k, k ≤ d.held.length → -(8000000000000 * (k : Int)) ≤ freeK d a t k ∧ freeK d a t k ≤ 0
  | 0, _ => by unfold freeK; omega
  | k + 1, hk => by
    have h1 := freeK_le h a t k (by omega)
    have h2 := freeL_le h a t (k := k) (by omega)
    unfold freeK
    omega
def freC (d : Shd) (a t : Int) : Int := if shdF d = 0 then (if keyOk a t = true then 0 else 3) else shdF d
def freV (d : Shd) (a t : Int) : Int := if shdF d = 0 then (if keyOk a t = true then hasB a t d.bals + freeK d a t d.held.length else 0) else 0
theorem leg_mem {ls : List Leg} {j : Nat} (h : j < ls.length) : ls.getD j default ∈ ls := by
  have e : ls.getD j default = ls[j] := by simp [List.getD, h]
  rw [e]
  exact List.getElem_mem h
theorem free_book {idx : Int} {bs : List Bal} (h : 0 ≤ idx ∧ idx ≤ 2) (a t : Int) : (bookF (hereG idx bs) idx a t).getD 0 = hasB a t bs := by
  have h1 := hereG_at (bs := bs) h
  rw [hasB_get, bookF, if_pos ⟨h.1, by show idx < ((3 : Nat) : Int); omega⟩, h1]
theorem l1Min_any (a b : Int) (w : World) : Calls Tryz.prog 81 #[.int .i64 a, .int .i64 b] w fun e w' => e = .returned (.int .i64 (if a < b then a else b)) ∧ w' = w := by
  by_cases h : a < b
  · rw [if_pos h]
    go_enter Tryz.func81, Tryz.ntmps81
    go_wp2
    go_ret
    exact ⟨rfl, rfl⟩
  · rw [if_neg h]
    go_enter Tryz.func81, Tryz.ntmps81
    go_wp2
    go_ret
    exact ⟨rfl, rfl⟩
theorem eqlK (s a t s' a' t' : Int) (w : World) : (binOp .eql 114 (kv s a t) (kv s' a' t')).run Tryz.prog w = .ok (.bool (decide (s = s' ∧ a = a' ∧ t = t'))) w := by
  unfold kv
  obtain ⟨i0, hi0, hz0, hzz1, hzz2⟩ := info_parts infoInt
  have e := run_equalIn_array (P := Tryz.prog) (t := 114) (e := 2) (n := 3) (i := i0) w 9999 #[.int .i64 s, .int .i64 a, .int .i64 t] #[.int .i64 s', .int .i64 a', .int .i64 t'] (by kernel_rfl) hi0
  rw [run_eql_struct]
  rw [show (10000 : Nat) = 9999 + 1 from rfl, e, show Tryz.prog.cellsOf 2 = 1 by kernel_rfl]
  simp [Op.eqItems, go_sem, List.range_succ]
  by_cases e1 : s = s' <;> by_cases e2 : a = a' <;> by_cases e3 : t = t' <;> simp [e1, e2, e3]
end Go.Proofs.YtojjdkggomlegaaGreat

/-
  FreeOf, the document's.
-/
set_option linter.unusedSimpArgs false
set_option linter.unusedVariables false
namespace Go.Proofs.YtojjdkggomlegaaGreat
open Go.RowKit
set_option linter.unusedSectionVars false
variable [DecidableEq Rw] [Inhabited Rw] [DecidableEq Bal] [Inhabited Bal] [DecidableEq Ledg] [Inhabited Ledg] [DecidableEq Leg] [Inhabited Leg] [DecidableEq Cont] [Inhabited Cont] [DecidableEq LedgR] [Inhabited LedgR] [DecidableEq OutcR] [Inhabited OutcR] [DecidableEq Mrk] [Inhabited Mrk] [DecidableEq Shd] [Inhabited Shd] [DecidableEq ShdR] [Inhabited ShdR] [DecidableEq IntsR] [Inhabited IntsR]
attribute [local go_sem ↓] Go.wp_at_zero Go.wp_at_succ

set_option maxRecDepth 20000 in
set_option maxHeartbeats 8000000 in
theorem specFree_any (x : Value) (d : Shd) (a t : Int) (w : World) (hx : shdR.V w x d) :
    Calls Tryz.prog 25 #[x, .int .i64 a, .int .i64 t] w fun e w' => e = .returned (.agg #[.int .i64 (freC d a t), .int .i64 (freV d a t)]) ∧ Below w.heap.size w w' := by
  have HSf : Hid (∀ W, Below w.heap.size w W → Calls Tryz.prog 9 #[x] W fun e w' => e = .returned (.int .i64 (shdF d)) ∧ Below W.heap.size W w') := fun W hW => specShdF_any x d W (shdR.below hx hW)
  obtain ⟨u1, u2, u3, u4, u5, rfl, h1, h2, h3, h4, h5⟩ := hx
  have HX3 : Hid (∃ a c, u3 = .slice a d.held.length c ∧ d.held.length ≤ c ∧ c ≤ maxLen ∧ ∀ k, k < d.held.length → ∃ b o p q, a = some ⟨b, o, none⟩ ∧ w.cell? ⟨b, o + k * 2, none⟩ = some (.int .i64 (d.held.getD k default).id) ∧ w.cell? ⟨b, o + k * 2 + 1, none⟩ = some (.slice p (d.held.getD k default).legs.length q) ∧ contR.V w (.agg #[.int .i64 (d.held.getD k default).id, .slice p (d.held.getD k default).legs.length q]) (d.held.getD k default)) := conts_at h3
  have HHas : Hid (∀ W, Below w.heap.size w W → Calls Tryz.prog 80 #[u1, .int .i64 a, .int .i64 t] W fun e w' => e = .returned (.int .i64 (hasB a t d.bals)) ∧ w' = W) := fun W hW => l2Has_any u1 _ a t W (balsR.below h1 hW)
  obtain ⟨a1, c1, rfl⟩ := bals_form h1
  obtain ⟨a2, c2, rfl⟩ := mrks_form h2
  obtain ⟨a3, c3, rfl⟩ := conts_form h3
  obtain ⟨a4, c4, rfl⟩ := mrks_form h4
  obtain ⟨a5, c5, rfl⟩ := ints_form h5
  obtain ⟨_, _, e3, hc3, hm3, hx3⟩ := HX3.out
  simp only [Value.slice.injEq, true_and] at e3
  obtain ⟨rfl, rfl⟩ := e3
  unfold maxLen at hm3
  have HX : Hid (∀ k, k < d.held.length → ∃ b o p q, a3 = some ⟨b, o, none⟩ ∧ w.cell? ⟨b, o + k * 2, none⟩ = some (.int .i64 (d.held.getD k default).id) ∧ w.cell? ⟨b, o + k * 2 + 1, none⟩ = some (.slice p (d.held.getD k default).legs.length q) ∧ contR.V w (.agg #[.int .i64 (d.held.getD k default).id, .slice p (d.held.getD k default).legs.length q]) (d.held.getD k default)) := hx3
  clear h1 h2 h3 h4 h5 HX3 hx3
  have HE : Hid (¬ shdF d = 0 → freC d a t = shdF d ∧ freV d a t = 0) := fun h => by unfold freC freV; rw [if_neg h, if_neg h]; exact ⟨rfl, rfl⟩
  have HE2 : Hid (shdF d = 0 → ¬ keyOk a t = true → freC d a t = 3 ∧ freV d a t = 0) := fun h h2 => by unfold freC freV; rw [if_pos h, if_pos h, if_neg h2, if_neg h2]; exact ⟨rfl, rfl⟩
  have HK : Hid (shdF d = 0 → keyOk a t = true → freC d a t = 0 ∧ freV d a t = hasB a t d.bals + freeK d a t d.held.length) := fun h h2 => by unfold freC freV; rw [if_pos h, if_pos h, if_pos h2, if_pos h2]; exact ⟨rfl, rfl⟩
  have HOk : Hid (shdF d = 0 → baseF d.idx d.bals = 0 ∧ d.held.length ≤ 100 ∧ HeldOk d) := fun h => ⟨(listsF_ok (shdF_ok h)).1, (listsF_ok (shdF_ok h)).2.1.nh, (listsF_ok (shdF_ok h)).2.2⟩
  have HKb : Hid (HeldOk d → ∀ k, k ≤ d.held.length → -(8000000000000 * (k : Int)) ≤ freeK d a t k ∧ freeK d a t k ≤ 0) := fun h => freeK_le h a t
  have HBb : Hid (baseF d.idx d.bals = 0 → 0 ≤ hasB a t d.bals ∧ hasB a t d.bals ≤ 1000000000000) := fun h => smallB_of (balsOk_of (base_idx h).2) a t
  have HHl : Hid (HeldOk d → ∀ k, k < d.held.length → (d.held.getD k default).legs.length ≤ 8 ∧ (legsH d k).length ≤ 8 ∧ small (legsH d k) ∧ ∀ j, j < (d.held.getD k default).legs.length → -1000000000000 ≤ ((d.held.getD k default).legs.getD j default).am ∧ ((d.held.getD k default).legs.getD j default).am ≤ 1000000000000) := fun h k hk => ⟨h.len hk, legsH_len h hk, h.small hk, fun j hj => (legFault_zero (h.fault hk _ (leg_mem hj))).2.2.2.1⟩
  have HKs : Hid (∀ k, freeK d a t (k + 1) = freeK d a t k + freeL a t (legsH d k)) := fun k => rfl
  generalize d.bals.length = n1 at *
  generalize d.votes.length = n2 at *
  generalize d.held.length = n3 at *
  generalize d.done.length = n4 at *
  generalize d.appl.length = n5 at *
  generalize hsf0 : shdF d = sf at *
  clear hsf0
  obtain ⟨cd, hcd⟩ : ∃ cd, cd = freC d a t := ⟨_, rfl⟩
  obtain ⟨vl, hvl⟩ : ∃ vl, vl = freV d a t := ⟨_, rfl⟩
  rw [← hcd, ← hvl] at HE HE2 HK ⊢
  clear hcd hvl
  obtain ⟨hb0, hhb0⟩ : ∃ hb0, hb0 = hasB a t d.bals := ⟨_, rfl⟩
  rw [← hhb0] at HK HBb HHas
  clear hhb0
  
  go_enter Tryz.func25, Tryz.ntmps25
  go_wp2_with fail
  refine (HSf.out _ (by (repeat (first | exact Below.refl _ _ | assumption | refine Below.drew ?_ | refine balloc ?_ _ | refine bset ?_ (by simp; omega) _ | refine bset ?_ (by simp) _ | refine bstep ?_ (by assumption))))).mono ?_
  rintro e w1 ⟨rfl, hb1⟩
  have hB1 : Below w.heap.size w w1 := bstep (by (repeat (first | exact Below.refl _ _ | assumption | refine Below.drew ?_ | refine balloc ?_ _ | refine bset ?_ (by simp; omega) _ | refine bset ?_ (by simp) _ | refine bstep ?_ (by assumption)))) hb1
  have hz1 := hb1.size
  simp at hz1
  have f1 := (bcell hb1).2
  have y0 : w1.cell? ⟨w.heap.size, 0, none⟩ = some (.int .i64 d.idx) := cell_keep hb1 (by simp [go_sem])
  have y1 : w1.cell? ⟨w.heap.size, 1, none⟩ = some (.slice a1 n1 c1) := cell_keep hb1 (by simp [go_sem])
  have y2 : w1.cell? ⟨w.heap.size, 2, none⟩ = some (.slice a2 n2 c2) := cell_keep hb1 (by simp [go_sem])
  have y3 : w1.cell? ⟨w.heap.size, 3, none⟩ = some (.slice a3 n3 c3) := cell_keep hb1 (by simp [go_sem])
  have y4 : w1.cell? ⟨w.heap.size, 4, none⟩ = some (.slice a4 n4 c4) := cell_keep hb1 (by simp [go_sem])
  have y5 : w1.cell? ⟨w.heap.size, 5, none⟩ = some (.slice a5 n5 c5) := cell_keep hb1 (by simp [go_sem])
  have r0 : w1.cell? ⟨w.heap.size + 1, 0, none⟩ = some (.int .i64 0) := cell_keep hb1 (by simp [go_sem])
  have r1 : w1.cell? ⟨w.heap.size + 1, 1, none⟩ = some (.int .i64 0) := cell_keep hb1 (by simp [go_sem])
  have rf : ∀ o, w1.frozen? ⟨w.heap.size + 1, o, none⟩ = false := fun o => by rw [f1 _ _ (by simp; try omega)]; simp [go_sem]
  clear hb1 f1 HSf
  by_cases hsf : sf = 0
  rotate_left
  · obtain ⟨HC1, HC2⟩ := HE.out hsf
    have hsf' : (sf != 0) = true := by simp [hsf]
    clear HE HE2 HK HOk HX
    go_wp2
    exact bodyPost_ret (v := .agg #[.int .i64 sf, .int .i64 0]) (by simp [results, Tryz.results25, go_sem, r0, r1, rf]) rfl ⟨by rw [HC1, HC2], by (repeat (first | refine bset ?_ (by simp; omega) _ | refine bset ?_ (by simp) _ | refine balloc ?_ _ | assumption))⟩
  obtain ⟨h0, hn100, hhk⟩ := HOk.out hsf
  have HKb' : Hid (∀ k, k ≤ n3 → -(8000000000000 * (k : Int)) ≤ freeK d a t k ∧ freeK d a t k ≤ 0) := HKb.out hhk
  have hbb := HBb.out h0
  have HHl' : Hid (∀ k, k < n3 → (d.held.getD k default).legs.length ≤ 8 ∧ (legsH d k).length ≤ 8 ∧ small (legsH d k) ∧ ∀ j, j < (d.held.getD k default).legs.length → -1000000000000 ≤ ((d.held.getD k default).legs.getD j default).am ∧ ((d.held.getD k default).legs.getD j default).am ≤ 1000000000000) := HHl.out hhk
  have HE2' : Hid (¬ keyOk a t = true → cd = 3 ∧ vl = 0) := HE2.out hsf
  have HK' : Hid (keyOk a t = true → cd = 0 ∧ vl = hb0 + freeK d a t n3) := HK.out hsf
  rw [hsf]
  clear HE HE2 HK HOk HKb HBb HHl hhk hsf
  cases hko : keyOk a t
  · obtain ⟨HC1, HC2⟩ := HE2'.out (by rw [hko]; decide)
    clear HE2' HK' HX
    go_wp2_with (first | (go_at_call 79; refine (l2Key_any _ _ _).mono ?_; rintro e w' ⟨rfl, hw'⟩; rw [hw', hko]))
    exact bodyPost_ret (v := .agg #[.int .i64 3, .int .i64 0]) (by simp [results, Tryz.results25, go_sem, r0, r1, rf]) rfl ⟨by rw [HC1, HC2], by (repeat (first | refine bset ?_ (by simp; omega) _ | refine bset ?_ (by simp) _ | refine balloc ?_ _ | assumption))⟩
  obtain ⟨HC1, HC2⟩ := HK'.out hko
  clear HE2' HK'
  go_wp2_with (first | (go_at_call 79; refine (l2Key_any _ _ _).mono ?_; rintro e w' ⟨rfl, hw'⟩; rw [hw', hko]) | (go_at_call 80; refine (HHas.out _ hB1).mono ?_; rintro e w' ⟨rfl, hw'⟩; rw [hw']))
  clear HHas
  go_loopw [8, 9] (fun n i w' => ∃ (k : Nat) (c : Int), k ≤ n3 ∧ n = .int .i64 c ∧ i = .int .i64 k ∧ Hid (c = hb0 + freeK d a t k) ∧ Below w1.heap.size w1 w') (fun n i _ => n3 - (intOf i).toNat)
  case atStart => exact ⟨0, hb0, Nat.zero_le _, rfl, rfl, by show hb0 = hb0 + freeK d a t 0; unfold freeK; omega, Below.refl _ _⟩
  case round =>
    obtain ⟨k, c, hk, rfl, rfl, HCc, hbl⟩ := hrel
    have hBr : Below w.heap.size w wr := bstep hB1 hbl
    have zr := hbl.size
    replace y0 := cell_keep hbl y0
    replace y1 := cell_keep hbl y1
    replace y2 := cell_keep hbl y2
    replace y3 := cell_keep hbl y3
    replace y4 := cell_keep hbl y4
    replace y5 := cell_keep hbl y5
    replace r0 := cell_keep hbl r0
    replace r1 := cell_keep hbl r1
    replace rf : ∀ o, wr.frozen? ⟨w.heap.size + 1, o, none⟩ = false := fun o => by rw [(bcell hbl).2 _ _ (by omega)]; exact rf o
    have zz0 : w.heap.size < wr.heap.size := by omega
    have zz1 : w.heap.size + 1 < wr.heap.size := by omega
    by_cases hlt : k < n3
    · obtain ⟨bx, ox, pp, qq, rfl, g0, g1, hV⟩ := HX.out k hlt
      obtain ⟨ul, hul, hvl⟩ := hV
      simp only [Value.agg.injEq, Array.mk.injEq, List.cons.injEq, and_true, true_and] at hul
      subst hul
      have HLg : Hid (∀ W, Below wr.heap.size wr W → Calls Tryz.prog 56 #[.agg #[.int .i64 (d.held.getD k default).id, .slice pp (d.held.getD k default).legs.length qq], .int .i64 d.idx] W fun e w' => ∃ v, e = .returned v ∧ w'.ownsRow W.heap.size 111 4 v (legsH d k).length (legsC (legsH d k)) ∧ Below W.heap.size W w') := fun W hW => l1Legs_any _ _ _ _ W (legsR.below hvl (bstep hBr hW)) (by have := (HHl'.out k hlt).1; omega)
      have hkb := HKb'.out k (by omega)
      have hlen : (legsH d k).length ≤ 8 := (HHl'.out k hlt).2.1
      have HSm : Hid (∀ j, j < (legsH d k).length → -1000000000000 ≤ ((legsH d k).getD j default).am ∧ ((legsH d k).getD j default).am ≤ 1000000000000) := (HHl'.out k hlt).2.2.1
      have HSb : Hid (∀ j, j ≤ (legsH d k).length → -(1000000000000 * (j : Int)) ≤ sumT (cutL a t) (legsH d k) j ∧ sumT (cutL a t) (legsH d k) j ≤ 0) := sumT_le (fun j hj => cutL_le (HSm.out j hj))
      have HSs : Hid (∀ j, j < (legsH d k).length → sumT (cutL a t) (legsH d k) (j + 1) = sumT (cutL a t) (legsH d k) j + cutL a t ((legsH d k).getD j default)) := fun j hj => sumT_succ hj
      have HSe : Hid (hb0 + freeK d a t k + sumT (cutL a t) (legsH d k) (legsH d k).length = hb0 + freeK d a t (k + 1)) := by show _ = _; rw [sumT_all, HKs.out]; unfold freeL; omega
      obtain ⟨B, hBv⟩ : ∃ B, B = hb0 + freeK d a t k := ⟨_, rfl⟩
      have hBb : -800000000000000 ≤ B ∧ B ≤ 1000000000000 := by omega
      rw [← hBv] at HSe HCc
      have HCB := HCc.out.symm
      subst HCB
      clear hvl hBv hkb
      generalize (d.held.getD k default).legs.length = ll at *
      generalize (d.held.getD k default).id = qid at *
      generalize legsH d k = lg at *
      replace g0 := cell_keep hBr g0
      replace g1 := cell_keep hBr g1
      have zb : bx < wr.heap.size := World.block_lt_of_cell? wr _ g0
      go_wp2
      refine wp_region_noPanic ?_
      refine region_upto (fun W => Below wr.heap.size wr W ∧ W.cell? ⟨w.heap.size, 0, none⟩ = some (.int .i64 d.idx) ∧ W.cell? ⟨w.heap.size, 3, none⟩ = some (.slice (some ⟨bx, ox, none⟩) n3 c3) ∧ W.cell? ⟨bx, ox + k * 2, none⟩ = some (.int .i64 qid) ∧ W.cell? ⟨bx, ox + k * 2 + 1, none⟩ = some (.slice pp ll qq)) 9 (by kernel_rfl) ⟨by (repeat (first | exact Below.refl _ _ | assumption | refine Below.drew ?_ | refine balloc ?_ _ | refine bset ?_ (by simp; omega) _ | refine bset ?_ (by simp) _ | refine bstep ?_ (by assumption))), cell_keep (by (repeat (first | exact Below.refl _ _ | assumption | refine Below.drew ?_ | refine balloc ?_ _ | refine bset ?_ (by simp; omega) _ | refine bset ?_ (by simp) _ | refine bstep ?_ (by assumption)))) y0, cell_keep (by (repeat (first | exact Below.refl _ _ | assumption | refine Below.drew ?_ | refine balloc ?_ _ | refine bset ?_ (by simp; omega) _ | refine bset ?_ (by simp) _ | refine bstep ?_ (by assumption)))) y3, cell_keep (by (repeat (first | exact Below.refl _ _ | assumption | refine Below.drew ?_ | refine balloc ?_ _ | refine bset ?_ (by simp; omega) _ | refine bset ?_ (by simp) _ | refine bstep ?_ (by assumption)))) g0, cell_keep (by (repeat (first | exact Below.refl _ _ | assumption | refine Below.drew ?_ | refine balloc ?_ _ | refine bset ?_ (by simp; omega) _ | refine bset ?_ (by simp) _ | refine bstep ?_ (by assumption)))) g1⟩ (fun hS => ?_)
      refine upto_takeN (i := 0) (v := ?_) rfl (by kernel_rfl) (by kernel_rfl) (by kernel_rfl) (by kernel_rfl) (fun _ _ _ h => h) (by rfl) hS ?_ ?_
      rotate_left
      · intro wS hSw
        try dsimp only at hSw
        first | (go_simp; done) | (go_simp; with_reducible rfl)
      try simp only [Act.put, List.getElem_toArray, List.getElem_cons_zero, List.getElem_cons_succ, List.setIfInBounds_toArray, List.set_cons_zero, List.set_cons_succ]
      refine upto_takeN (i := 1) (v := ?_) rfl (by kernel_rfl) (by kernel_rfl) (by kernel_rfl) (by kernel_rfl) (fun _ _ _ h => h) (by rfl) hS ?_ ?_
      rotate_left
      · intro wS hSw
        try dsimp only at hSw
        first | (go_simp; done) | (go_simp; with_reducible rfl)
      try simp only [Act.put, List.getElem_toArray, List.getElem_cons_zero, List.getElem_cons_succ, List.setIfInBounds_toArray, List.set_cons_zero, List.set_cons_succ]
      refine upto_takeN (i := 2) (v := ?_) rfl (by kernel_rfl) (by kernel_rfl) (by kernel_rfl) (by kernel_rfl) (fun _ _ _ h => h) (by rfl) hS ?_ ?_
      rotate_left
      · intro wS hSw
        try dsimp only at hSw
        first | (go_simp; done) | (go_simp; with_reducible rfl)
      try simp only [Act.put, List.getElem_toArray, List.getElem_cons_zero, List.getElem_cons_succ, List.setIfInBounds_toArray, List.set_cons_zero, List.set_cons_succ]
      refine upto_takeN (i := 3) (v := ?_) rfl (by kernel_rfl) (by kernel_rfl) (by kernel_rfl) (by kernel_rfl) (fun _ _ _ h => h) (by rfl) hS ?_ ?_
      rotate_left
      · intro wS hSw
        try dsimp only at hSw
        first | (go_simp; done) | (go_simp; with_reducible rfl)
      try simp only [Act.put, List.getElem_toArray, List.getElem_cons_zero, List.getElem_cons_succ, List.setIfInBounds_toArray, List.set_cons_zero, List.set_cons_succ]
      refine upto_takeN (i := 4) (v := ?_) rfl (by kernel_rfl) (by kernel_rfl) (by kernel_rfl) (by kernel_rfl) (fun _ _ _ h => h) (by rfl) hS ?_ ?_
      rotate_left
      · intro wS hSw
        try dsimp only at hSw
        first | (go_simp; done) | (go_simp; with_reducible rfl)
      try simp only [Act.put, List.getElem_toArray, List.getElem_cons_zero, List.getElem_cons_succ, List.setIfInBounds_toArray, List.set_cons_zero, List.set_cons_succ]
      refine upto_takeN (i := 5) (v := ?_) rfl (by kernel_rfl) (by kernel_rfl) (by kernel_rfl) (by kernel_rfl) (fun _ _ _ h => h) (by rfl) hS ?_ ?_
      rotate_left
      · intro wS hSw
        try dsimp only at hSw
        first | (go_simp; done) | (go_simp; with_reducible rfl)
      try simp only [Act.put, List.getElem_toArray, List.getElem_cons_zero, List.getElem_cons_succ, List.setIfInBounds_toArray, List.set_cons_zero, List.set_cons_succ]
      refine upto_takeN (i := 6) (v := ?_) rfl (by kernel_rfl) (by kernel_rfl) (by kernel_rfl) (by kernel_rfl) (fun _ _ _ h => h) (by rfl) hS ?_ ?_
      rotate_left
      · intro wS hSw
        try dsimp only at hSw
        first | (go_simp; done) | (go_simp; with_reducible rfl)
      try simp only [Act.put, List.getElem_toArray, List.getElem_cons_zero, List.getElem_cons_succ, List.setIfInBounds_toArray, List.set_cons_zero, List.set_cons_succ]
      refine upto_step (i := 7) (by kernel_rfl) rfl ?_
      intro K hK
      go_simp
      refine (HLg.out _ hS.1).mono ?_
      rintro e wz ⟨vg, rfl, og, hbz⟩
      have V1 := LegsV_of_owns og
      obtain ⟨ag, cg, rfl⟩ := owns_form og
      clear og
      have hbz' : Below wr.heap.size wr wz := bstep hS.1 hbz
      have hS3 := And.intro hbz' (And.intro (cell_keep hbz hS.2.1) (And.intro (cell_keep hbz hS.2.2.1) (And.intro (cell_keep hbz hS.2.2.2.1) (cell_keep hbz hS.2.2.2.2))))
      refine hK _ _ (fun _ => hS3) ?_
      clear hK K hS hbz
      have hS := hS3
      clear hS3
      try simp only [Act.put, List.getElem_toArray, List.getElem_cons_zero, List.getElem_cons_succ, List.setIfInBounds_toArray, List.set_cons_zero, List.set_cons_succ]
      refine upto_takeN (i := 8) (v := ?_) rfl (by kernel_rfl) (by kernel_rfl) (by kernel_rfl) (by kernel_rfl) (fun _ _ _ h => h) (by rfl) hS ?_ ?_
      rotate_left
      · intro wS hSw
        try dsimp only at hSw
        first | (go_simp; done) | (go_simp; with_reducible rfl)
      try simp only [Act.put, List.getElem_toArray, List.getElem_cons_zero, List.getElem_cons_succ, List.setIfInBounds_toArray, List.set_cons_zero, List.set_cons_succ]
      refine upto_done (by kernel_rfl) ?_
      refine NoPanic.normal ?_
      have hBz : Below w.heap.size w wz := bstep hBr hS.1
      have hbz1 : Below w1.heap.size w1 wz := bstep hbl hS.1
      obtain ⟨_, _, eg, hcg, hmg, hxg⟩ := V1
      simp only [Value.slice.injEq, true_and] at eg
      obtain ⟨rfl, rfl⟩ := eg
      unfold maxLen at hmg
      have HXg : Hid (∀ i, i < lg.length → ∃ b o, ag = some ⟨b, o, none⟩ ∧ legCells wz b (o + i * 4) (lg.getD i default)) := hxg
      clear hxg HLg hS
      obtain ⟨m, hm⟩ : ∃ m, m = lg.length := ⟨_, rfl⟩
      rw [← hm] at HSm HSb HSs HSe HXg hlen hcg ⊢
      clear hm
      go_wp2
      go_loopw [8, 11] (fun n i w' => ∃ (j : Nat) (c : Int), j ≤ m ∧ n = .int .i64 c ∧ i = .int .i64 j ∧ Hid (c = B + sumT (cutL a t) lg j) ∧ Hid (w' = wz)) (fun n i _ => m - (intOf i).toNat)
      case atStart => exact ⟨0, B, Nat.zero_le _, rfl, rfl, by show B = B + sumT (cutL a t) lg 0; rw [sumT_zero]; omega, rfl⟩
      case round =>
        obtain ⟨j, c, hj, rfl, rfl, HCj, HW⟩ := hrel
        by_cases hlt2 : j < m
        · obtain ⟨bg, og, rfl, g2⟩ := HXg.out j hlt2
          have h1 := HSs.out j hlt2
          have h2 := HSm.out j hlt2
          have h3 := HSb.out j hj
          obtain ⟨l, hl⟩ : ∃ l, l = lg.getD j default := ⟨_, rfl⟩
          rw [← hl] at g2 h1 h2
          have H1 : Hid (sumT (cutL a t) lg (j + 1) = sumT (cutL a t) lg j + cutL a t l) := h1
          have hcb : -900000000000000 ≤ c ∧ c ≤ 1000000000000 := by have := HCj.out; omega
          clear hl h1 h3
          rw [← HW.out] at g2
          obtain ⟨e0, e1, e2, e3⟩ := g2
          by_cases hm1 : l.ac = a
          · have hm1' : (l.ac == a) = true := by simp [hm1]
            by_cases hm2 : l.ast = t
            · have hm2' : (l.ast == t) = true := by simp [hm2]
              have HC : Hid (c + (if 0 < l.am then 0 else l.am) = B + sumT (cutL a t) lg (j + 1)) := by
                show _ = _
                rw [H1.out, HCj.out]
                unfold cutL
                rw [if_pos (show l.ac = a ∧ l.ast = t from ⟨hm1, hm2⟩)]
                omega
              have hq : -1000000000000 ≤ (if 0 < l.am then 0 else l.am) ∧ (if 0 < l.am then 0 else l.am) ≤ 0 := by split <;> omega
              have HMn : Hid (∀ W, Calls Tryz.prog 81 #[.int .i64 0, .int .i64 l.am] W fun e w' => e = .returned (.int .i64 (if 0 < l.am then 0 else l.am)) ∧ w' = W) := fun W => l1Min_any 0 l.am W
              generalize (if 0 < l.am then (0 : Int) else l.am) = q at *
              have hwq : IntKind.i64.wrap (c + q) = c + q := wrapId (by omega) (by omega)
              clear HCj H1
              go_wp2_with (first | (go_at_call 81; refine (HMn.out _).mono ?_; rintro e w' ⟨rfl, rfl⟩))
              exact ⟨⟨j + 1, c + q, by omega, by first | rfl | (rw [hwq]), by go_num, HC, HW⟩, by simp [intOf]; omega⟩
            · have hm2' : (l.ast == t) = false := by simp [hm2]
              have HC : Hid (c = B + sumT (cutL a t) lg (j + 1)) := by
                show _ = _
                rw [H1.out, HCj.out]
                unfold cutL
                rw [if_neg (fun h => hm2 h.2)]
                omega
              clear HCj H1
              go_wp2
              exact ⟨⟨j + 1, c, by omega, rfl, by go_num, HC, HW⟩, by simp [intOf]; omega⟩
          · have hm1' : (l.ac == a) = false := by simp [hm1]
            have HC : Hid (c = B + sumT (cutL a t) lg (j + 1)) := by
              show _ = _
              rw [H1.out, HCj.out]
              unfold cutL
              rw [if_neg (fun h => hm1 h.1)]
              omega
            clear HCj H1
            go_wp2
            exact ⟨⟨j + 1, c, by omega, rfl, by go_num, HC, HW⟩, by simp [intOf]; omega⟩
        · have hjm : j = m := by omega
          subst hjm
          have HC : Hid (c = hb0 + freeK d a t (k + 1)) := by show _ = _; rw [HCj.out]; exact HSe.out
          have hWb : Below w1.heap.size w1 wr := by rw [HW.out]; exact hbz1
          clear HCj
          go_wp2
          exact ⟨⟨k + 1, c, by omega, rfl, by go_num, HC, hWb⟩, by simp [intOf]; omega⟩
    · have hkn : k = n3 := by omega
      subst hkn
      go_wp2
      refine bodyPost_ret (v := .agg #[.int .i64 0, .int .i64 c]) (by simp [results, Tryz.results25, go_sem, r0, r1, rf]) rfl ⟨by rw [HC1, HC2, HCc.out], by (repeat (first | refine bset ?_ (by simp; omega) _ | refine bset ?_ (by simp) _ | refine balloc ?_ _ | assumption))⟩
end Go.Proofs.YtojjdkggomlegaaGreat

/-
  FreeOf, the program's.
-/
set_option linter.unusedSimpArgs false
set_option linter.unusedVariables false
namespace Go.Proofs.YtojjdkggomlegaaGreat
open Go.RowKit
set_option linter.unusedSectionVars false
variable [DecidableEq Rw] [Inhabited Rw] [DecidableEq Bal] [Inhabited Bal] [DecidableEq Ledg] [Inhabited Ledg] [DecidableEq Leg] [Inhabited Leg] [DecidableEq Cont] [Inhabited Cont] [DecidableEq LedgR] [Inhabited LedgR] [DecidableEq OutcR] [Inhabited OutcR] [DecidableEq Mrk] [Inhabited Mrk] [DecidableEq Shd] [Inhabited Shd] [DecidableEq ShdR] [Inhabited ShdR] [DecidableEq IntsR] [Inhabited IntsR]
attribute [local go_sem ↓] Go.wp_at_zero Go.wp_at_succ

theorem bookField (b : Nat) (w : World) : (Instr.field 82 (.agg #[.int .i64 3, .map (some b)]) 1).run Tryz.prog w = .ok (.map (some b)) w := by kernel_rfl
set_option maxRecDepth 20000 in
set_option maxHeartbeats 8000000 in
theorem implFree_any (x : Value) (d : Shd) (a t : Int) (w : World) (hx : shdR.V w x d) :
    Calls Tryz.prog 26 #[x, .int .i64 a, .int .i64 t] w fun e w' => e = .returned (.agg #[.int .i64 (freC d a t), .int .i64 (freV d a t)]) ∧ Below w.heap.size w w' := by
  have HSf : Hid (∀ W, Below w.heap.size w W → Calls Tryz.prog 11 #[x] W fun e w' => e = .returned (.int .i64 (shdF d)) ∧ Below W.heap.size W w') := fun W hW => implShdF_any x d W (shdR.below hx hW)
  have HBo : Hid (∀ W, Below w.heap.size w W → baseF d.idx d.bals = 0 → Calls Tryz.prog 48 #[x] W fun e w' => ∃ b, e = .returned (.agg #[.int .i64 3, .map (some b)]) ∧ W.heap.size ≤ b ∧ Book w' b 54 (bookF (hereG d.idx d.bals)) ∧ Below W.heap.size W w') := fun W hW h0 => bookHere_any x d W (shdR.below hx hW) h0
  obtain ⟨u1, u2, u3, u4, u5, rfl, h1, h2, h3, h4, h5⟩ := hx
  have HX3 : Hid (∃ a c, u3 = .slice a d.held.length c ∧ d.held.length ≤ c ∧ c ≤ maxLen ∧ ∀ k, k < d.held.length → ∃ b o p q, a = some ⟨b, o, none⟩ ∧ w.cell? ⟨b, o + k * 2, none⟩ = some (.int .i64 (d.held.getD k default).id) ∧ w.cell? ⟨b, o + k * 2 + 1, none⟩ = some (.slice p (d.held.getD k default).legs.length q) ∧ contR.V w (.agg #[.int .i64 (d.held.getD k default).id, .slice p (d.held.getD k default).legs.length q]) (d.held.getD k default)) := conts_at h3
  obtain ⟨a1, c1, rfl⟩ := bals_form h1
  obtain ⟨a2, c2, rfl⟩ := mrks_form h2
  obtain ⟨a3, c3, rfl⟩ := conts_form h3
  obtain ⟨a4, c4, rfl⟩ := mrks_form h4
  obtain ⟨a5, c5, rfl⟩ := ints_form h5
  obtain ⟨_, _, e3, hc3, hm3, hx3⟩ := HX3.out
  simp only [Value.slice.injEq, true_and] at e3
  obtain ⟨rfl, rfl⟩ := e3
  unfold maxLen at hm3
  have HX : Hid (∀ k, k < d.held.length → ∃ b o p q, a3 = some ⟨b, o, none⟩ ∧ w.cell? ⟨b, o + k * 2, none⟩ = some (.int .i64 (d.held.getD k default).id) ∧ w.cell? ⟨b, o + k * 2 + 1, none⟩ = some (.slice p (d.held.getD k default).legs.length q) ∧ contR.V w (.agg #[.int .i64 (d.held.getD k default).id, .slice p (d.held.getD k default).legs.length q]) (d.held.getD k default)) := hx3
  clear h1 h2 h3 h4 h5 HX3 hx3
  have HE : Hid (¬ shdF d = 0 → freC d a t = shdF d ∧ freV d a t = 0) := fun h => by unfold freC freV; rw [if_neg h, if_neg h]; exact ⟨rfl, rfl⟩
  have HE2 : Hid (shdF d = 0 → ¬ keyOk a t = true → freC d a t = 3 ∧ freV d a t = 0) := fun h h2 => by unfold freC freV; rw [if_pos h, if_pos h, if_neg h2, if_neg h2]; exact ⟨rfl, rfl⟩
  have HK : Hid (shdF d = 0 → keyOk a t = true → freC d a t = 0 ∧ freV d a t = hasB a t d.bals + freeK d a t d.held.length) := fun h h2 => by unfold freC freV; rw [if_pos h, if_pos h, if_pos h2, if_pos h2]; exact ⟨rfl, rfl⟩
  have HOk : Hid (shdF d = 0 → baseF d.idx d.bals = 0 ∧ d.held.length ≤ 100 ∧ HeldOk d) := fun h => ⟨(listsF_ok (shdF_ok h)).1, (listsF_ok (shdF_ok h)).2.1.nh, (listsF_ok (shdF_ok h)).2.2⟩
  have HKb : Hid (HeldOk d → ∀ k, k ≤ d.held.length → -(8000000000000 * (k : Int)) ≤ freeK d a t k ∧ freeK d a t k ≤ 0) := fun h => freeK_le h a t
  have HBb : Hid (baseF d.idx d.bals = 0 → 0 ≤ hasB a t d.bals ∧ hasB a t d.bals ≤ 1000000000000) := fun h => smallB_of (balsOk_of (base_idx h).2) a t
  have HHl : Hid (HeldOk d → ∀ k, k < d.held.length → (d.held.getD k default).legs.length ≤ 8 ∧ (legsH d k).length ≤ 8 ∧ small (legsH d k) ∧ ∀ j, j < (d.held.getD k default).legs.length → -1000000000000 ≤ ((d.held.getD k default).legs.getD j default).am ∧ ((d.held.getD k default).legs.getD j default).am ≤ 1000000000000) := fun h k hk => ⟨h.len hk, legsH_len h hk, h.small hk, fun j hj => (legFault_zero (h.fault hk _ (leg_mem hj))).2.2.2.1⟩
  have HKs : Hid (∀ k, freeK d a t (k + 1) = freeK d a t k + freeL a t (legsH d k)) := fun k => rfl
  generalize d.bals.length = n1 at *
  generalize d.votes.length = n2 at *
  generalize d.held.length = n3 at *
  generalize d.done.length = n4 at *
  generalize d.appl.length = n5 at *
  generalize hsf0 : shdF d = sf at *
  clear hsf0
  obtain ⟨cd, hcd⟩ : ∃ cd, cd = freC d a t := ⟨_, rfl⟩
  obtain ⟨vl, hvl⟩ : ∃ vl, vl = freV d a t := ⟨_, rfl⟩
  rw [← hcd, ← hvl] at HE HE2 HK ⊢
  clear hcd hvl
  obtain ⟨hb0, hhb0⟩ : ∃ hb0, hb0 = hasB a t d.bals := ⟨_, rfl⟩
  rw [← hhb0] at HK HBb
  have HHb : Hid (hb0 = hasB a t d.bals) := hhb0
  clear hhb0
  go_enter Tryz.func26, Tryz.ntmps26
  go_wp2_with fail
  refine (HSf.out _ (by (repeat (first | exact Below.refl _ _ | assumption | refine Below.drew ?_ | refine balloc ?_ _ | refine bset ?_ (by simp; omega) _ | refine bset ?_ (by simp) _ | refine bstep ?_ (by assumption))))).mono ?_
  rintro e w1 ⟨rfl, hb1⟩
  have hB1 : Below w.heap.size w w1 := bstep (by (repeat (first | exact Below.refl _ _ | assumption | refine Below.drew ?_ | refine balloc ?_ _ | refine bset ?_ (by simp; omega) _ | refine bset ?_ (by simp) _ | refine bstep ?_ (by assumption)))) hb1
  have hz1 := hb1.size
  simp at hz1
  have f1 := (bcell hb1).2
  have y0 : w1.cell? ⟨w.heap.size, 0, none⟩ = some (.int .i64 d.idx) := cell_keep hb1 (by simp [go_sem])
  have y1 : w1.cell? ⟨w.heap.size, 1, none⟩ = some (.slice a1 n1 c1) := cell_keep hb1 (by simp [go_sem])
  have y2 : w1.cell? ⟨w.heap.size, 2, none⟩ = some (.slice a2 n2 c2) := cell_keep hb1 (by simp [go_sem])
  have y3 : w1.cell? ⟨w.heap.size, 3, none⟩ = some (.slice a3 n3 c3) := cell_keep hb1 (by simp [go_sem])
  have y4 : w1.cell? ⟨w.heap.size, 4, none⟩ = some (.slice a4 n4 c4) := cell_keep hb1 (by simp [go_sem])
  have y5 : w1.cell? ⟨w.heap.size, 5, none⟩ = some (.slice a5 n5 c5) := cell_keep hb1 (by simp [go_sem])
  have r0 : w1.cell? ⟨w.heap.size + 1, 0, none⟩ = some (.int .i64 0) := cell_keep hb1 (by simp [go_sem])
  have r1 : w1.cell? ⟨w.heap.size + 1, 1, none⟩ = some (.int .i64 0) := cell_keep hb1 (by simp [go_sem])
  have rf : ∀ o, w1.frozen? ⟨w.heap.size + 1, o, none⟩ = false := fun o => by rw [f1 _ _ (by simp; try omega)]; simp [go_sem]
  clear hb1 f1 HSf
  by_cases hsf : sf = 0
  rotate_left
  · obtain ⟨HC1, HC2⟩ := HE.out hsf
    have hsf' : (sf != 0) = true := by simp [hsf]
    clear HE HE2 HK HOk HX
    go_wp2
    exact bodyPost_ret (v := .agg #[.int .i64 sf, .int .i64 0]) (by simp [results, Tryz.results26, go_sem, r0, r1, rf]) rfl ⟨by rw [HC1, HC2], by (repeat (first | refine bset ?_ (by simp; omega) _ | refine bset ?_ (by simp) _ | refine balloc ?_ _ | assumption))⟩
  obtain ⟨h0, hn100, hhk⟩ := HOk.out hsf
  have HKb' : Hid (∀ k, k ≤ n3 → -(8000000000000 * (k : Int)) ≤ freeK d a t k ∧ freeK d a t k ≤ 0) := HKb.out hhk
  have hbb := HBb.out h0
  have HHl' : Hid (∀ k, k < n3 → (d.held.getD k default).legs.length ≤ 8 ∧ (legsH d k).length ≤ 8 ∧ small (legsH d k) ∧ ∀ j, j < (d.held.getD k default).legs.length → -1000000000000 ≤ ((d.held.getD k default).legs.getD j default).am ∧ ((d.held.getD k default).legs.getD j default).am ≤ 1000000000000) := HHl.out hhk
  have HE2' : Hid (¬ keyOk a t = true → cd = 3 ∧ vl = 0) := HE2.out hsf
  have HK' : Hid (keyOk a t = true → cd = 0 ∧ vl = hb0 + freeK d a t n3) := HK.out hsf
  rw [hsf]
  clear HE HE2 HK HOk HKb HBb HHl hhk hsf
  cases h2 : inB a 0 5
  · obtain ⟨HC1, HC2⟩ := HE2'.out (by simp [keyOk, h2])
    clear HE2' HK' HX
    go_wp2_with (first | (go_at_call 82; refine (isAccount_any _ _).mono ?_; rintro e w' ⟨rfl, hw'⟩; rw [hw', h2]))
    exact bodyPost_ret (v := .agg #[.int .i64 3, .int .i64 0]) (by simp [results, Tryz.results26, go_sem, r0, r1, rf]) rfl ⟨by rw [HC1, HC2], by (repeat (first | refine bset ?_ (by simp; omega) _ | refine bset ?_ (by simp) _ | refine balloc ?_ _ | assumption))⟩
  cases h3 : inB t 0 2
  · obtain ⟨HC1, HC2⟩ := HE2'.out (by simp [keyOk, h2, h3])
    clear HE2' HK' HX
    go_wp2_with (first | (go_at_call 82; refine (isAccount_any _ _).mono ?_; rintro e w' ⟨rfl, hw'⟩; rw [hw', h2]) | (go_at_call 83; refine (isAsset_any _ _).mono ?_; rintro e w' ⟨rfl, hw'⟩; rw [hw', h3]))
    exact bodyPost_ret (v := .agg #[.int .i64 3, .int .i64 0]) (by simp [results, Tryz.results26, go_sem, r0, r1, rf]) rfl ⟨by rw [HC1, HC2], by (repeat (first | refine bset ?_ (by simp; omega) _ | refine bset ?_ (by simp) _ | refine balloc ?_ _ | assumption))⟩
  obtain ⟨HC1, HC2⟩ := HK'.out (by simp [keyOk, h2, h3])
  clear HE2' HK'
  obtain ⟨i3, i4⟩ := inBi.1 h2
  obtain ⟨i5, i6⟩ := inBi.1 h3
  have hi := (base_idx h0).1
  have hw : kwf d.idx a t := ⟨wf_of (by omega) (by omega), wf_of (by omega) (by omega), wf_of (by omega) (by omega)⟩
  have HHb2 : Hid ((bookF (hereG d.idx d.bals) d.idx a t).getD 0 = hb0) := by show _ = _; rw [free_book hi, HHb.out]
  have HLk : Hid (∀ W b, Book W b 54 (bookF (hereG d.idx d.bals)) → (Instr.lookup 80 (.map (some b)) (.agg #[.int .i64 d.idx, .int .i64 a, .int .i64 t]) false).run Tryz.prog W = .ok (.int .i64 hb0) W) := fun W b hb => by rw [← HHb2.out]; exact (hb.look hw).1
  have HBo' : Hid (∀ W, Below w.heap.size w W → Calls Tryz.prog 48 #[.agg #[.int .i64 d.idx, .slice a1 n1 c1, .slice a2 n2 c2, .slice a3 n3 c3, .slice a4 n4 c4, .slice a5 n5 c5]] W fun e w' => ∃ b, e = .returned (.agg #[.int .i64 3, .map (some b)]) ∧ W.heap.size ≤ b ∧ Book w' b 54 (bookF (hereG d.idx d.bals)) ∧ Below W.heap.size W w') := fun W hW => HBo.out W hW h0
  have HKo : Hid (∀ W, Calls Tryz.prog 84 #[.int .i64 d.idx, .int .i64 a, .int .i64 t] W fun e w' => e = .returned (.agg #[.int .i64 d.idx, .int .i64 a, .int .i64 t]) ∧ Below W.heap.size W w') := fun W => keyOf_any _ _ _ W
  clear HBo HHb HHb2 hw
  go_wp2_with (first | (go_at_call 82; refine (isAccount_any _ _).mono ?_; rintro e w' ⟨rfl, hw'⟩; rw [hw', h2]) | (go_at_call 83; refine (isAsset_any _ _).mono ?_; rintro e w' ⟨rfl, hw'⟩; rw [hw', h3]))
  refine (HKo.out _).mono ?_
  rintro e w2 ⟨rfl, hb2⟩
  have hB2 : Below w.heap.size w w2 := bstep hB1 hb2
  have hz2 := hb2.size
  replace y0 := cell_keep hb2 y0
  replace y1 := cell_keep hb2 y1
  replace y2 := cell_keep hb2 y2
  replace y3 := cell_keep hb2 y3
  replace y4 := cell_keep hb2 y4
  replace y5 := cell_keep hb2 y5
  replace r0 := cell_keep hb2 r0
  replace r1 := cell_keep hb2 r1
  replace rf : ∀ o, w2.frozen? ⟨w.heap.size + 1, o, none⟩ = false := fun o => by rw [(bcell hb2).2 _ _ (by omega)]; exact rf o
  clear hb2 HKo
  have zz0 : w.heap.size < w2.heap.size := by omega
  have zz1 : w.heap.size + 1 < w2.heap.size := by omega
  go_wp2
  obtain ⟨w3, hw3⟩ : ∃ w3, w3 = w2.alloc (.cells #[.int .i64 d.idx, .int .i64 a, .int .i64 t] 114) := ⟨_, rfl⟩
  have k0 : w3.cell? ⟨w2.heap.size, 0, none⟩ = some (.int .i64 d.idx) := by rw [hw3]; simp [go_sem]
  have k1 : w3.cell? ⟨w2.heap.size, 1, none⟩ = some (.int .i64 a) := by rw [hw3]; simp [go_sem]
  have k2 : w3.cell? ⟨w2.heap.size, 2, none⟩ = some (.int .i64 t) := by rw [hw3]; simp [go_sem]
  have hb3 : Below w2.heap.size w2 w3 := by rw [hw3]; (repeat (first | exact Below.refl _ _ | assumption | refine Below.drew ?_ | refine balloc ?_ _ | refine bset ?_ (by simp; omega) _ | refine bset ?_ (by simp) _ | refine bstep ?_ (by assumption)))
  rw [← hw3]
  clear hw3
  have hB3 : Below w.heap.size w w3 := bstep hB2 hb3
  have hz3 := hb3.size
  replace y0 := cell_keep hb3 y0
  replace y1 := cell_keep hb3 y1
  replace y2 := cell_keep hb3 y2
  replace y3 := cell_keep hb3 y3
  replace y4 := cell_keep hb3 y4
  replace y5 := cell_keep hb3 y5
  replace r0 := cell_keep hb3 r0
  replace r1 := cell_keep hb3 r1
  replace rf : ∀ o, w3.frozen? ⟨w.heap.size + 1, o, none⟩ = false := fun o => by rw [(bcell hb3).2 _ _ (by omega)]; exact rf o
  refine wp_region_noPanic ?_
  refine region_upto (fun W => Below w3.heap.size w3 W ∧ W.cell? ⟨w.heap.size, 0, none⟩ = some (.int .i64 d.idx) ∧ W.cell? ⟨w.heap.size, 1, none⟩ = some (.slice a1 n1 c1) ∧ W.cell? ⟨w.heap.size, 2, none⟩ = some (.slice a2 n2 c2) ∧ W.cell? ⟨w.heap.size, 3, none⟩ = some (.slice a3 n3 c3) ∧ W.cell? ⟨w.heap.size, 4, none⟩ = some (.slice a4 n4 c4) ∧ W.cell? ⟨w.heap.size, 5, none⟩ = some (.slice a5 n5 c5) ∧ W.cell? ⟨w2.heap.size, 0, none⟩ = some (.int .i64 d.idx) ∧ W.cell? ⟨w2.heap.size, 1, none⟩ = some (.int .i64 a) ∧ W.cell? ⟨w2.heap.size, 2, none⟩ = some (.int .i64 t)) 6 (by kernel_rfl) ⟨by (repeat (first | exact Below.refl _ _ | assumption | refine Below.drew ?_ | refine balloc ?_ _ | refine bset ?_ (by simp; omega) _ | refine bset ?_ (by simp) _ | refine bstep ?_ (by assumption))), cell_keep (by (repeat (first | exact Below.refl _ _ | assumption | refine Below.drew ?_ | refine balloc ?_ _ | refine bset ?_ (by simp; omega) _ | refine bset ?_ (by simp) _ | refine bstep ?_ (by assumption)))) y0, cell_keep (by (repeat (first | exact Below.refl _ _ | assumption | refine Below.drew ?_ | refine balloc ?_ _ | refine bset ?_ (by simp; omega) _ | refine bset ?_ (by simp) _ | refine bstep ?_ (by assumption)))) y1, cell_keep (by (repeat (first | exact Below.refl _ _ | assumption | refine Below.drew ?_ | refine balloc ?_ _ | refine bset ?_ (by simp; omega) _ | refine bset ?_ (by simp) _ | refine bstep ?_ (by assumption)))) y2, cell_keep (by (repeat (first | exact Below.refl _ _ | assumption | refine Below.drew ?_ | refine balloc ?_ _ | refine bset ?_ (by simp; omega) _ | refine bset ?_ (by simp) _ | refine bstep ?_ (by assumption)))) y3, cell_keep (by (repeat (first | exact Below.refl _ _ | assumption | refine Below.drew ?_ | refine balloc ?_ _ | refine bset ?_ (by simp; omega) _ | refine bset ?_ (by simp) _ | refine bstep ?_ (by assumption)))) y4, cell_keep (by (repeat (first | exact Below.refl _ _ | assumption | refine Below.drew ?_ | refine balloc ?_ _ | refine bset ?_ (by simp; omega) _ | refine bset ?_ (by simp) _ | refine bstep ?_ (by assumption)))) y5, cell_keep (by (repeat (first | exact Below.refl _ _ | assumption | refine Below.drew ?_ | refine balloc ?_ _ | refine bset ?_ (by simp; omega) _ | refine bset ?_ (by simp) _ | refine bstep ?_ (by assumption)))) k0, cell_keep (by (repeat (first | exact Below.refl _ _ | assumption | refine Below.drew ?_ | refine balloc ?_ _ | refine bset ?_ (by simp; omega) _ | refine bset ?_ (by simp) _ | refine bstep ?_ (by assumption)))) k1, cell_keep (by (repeat (first | exact Below.refl _ _ | assumption | refine Below.drew ?_ | refine balloc ?_ _ | refine bset ?_ (by simp; omega) _ | refine bset ?_ (by simp) _ | refine bstep ?_ (by assumption)))) k2⟩ (fun hS => ?_)
  refine upto_takeN (i := 0) (v := ?_) rfl (by kernel_rfl) (by kernel_rfl) (by kernel_rfl) (by kernel_rfl) (fun _ _ _ h => h) (by rfl) hS ?_ ?_
  rotate_left
  · intro wS hSw
    try dsimp only at hSw
    first | (go_simp; done) | (go_simp; with_reducible rfl)
  try simp only [Act.put, List.getElem_toArray, List.getElem_cons_zero, List.getElem_cons_succ, List.setIfInBounds_toArray, List.set_cons_zero, List.set_cons_succ]
  refine upto_takeN (i := 3) (v := ?_) rfl (by kernel_rfl) (by kernel_rfl) (by kernel_rfl) (by kernel_rfl) (fun _ _ _ h => h) (by rfl) hS ?_ ?_
  rotate_left
  · intro wS hSw
    try dsimp only at hSw
    first | (go_simp; done) | (go_simp; with_reducible rfl)
  try simp only [Act.put, List.getElem_toArray, List.getElem_cons_zero, List.getElem_cons_succ, List.setIfInBounds_toArray, List.set_cons_zero, List.set_cons_succ]
  refine upto_step (i := 1) (by kernel_rfl) rfl ?_
  intro K hK
  go_simp
  refine (HBo'.out _ (bstep hB3 hS.1)).mono ?_
  rintro e wz ⟨b, rfl, _, hbk, hbz⟩
  have hlk := HLk.out _ _ hbk
  have hfd := bookField b
  have hbz' : Below w3.heap.size w3 wz := bstep hS.1 hbz
  have hS3 := And.intro hbz' (And.intro (cell_keep hbz hS.2.1) (And.intro (cell_keep hbz hS.2.2.1) (And.intro (cell_keep hbz hS.2.2.2.1) (And.intro (cell_keep hbz hS.2.2.2.2.1) (And.intro (cell_keep hbz hS.2.2.2.2.2.1) (And.intro (cell_keep hbz hS.2.2.2.2.2.2.1) (And.intro (cell_keep hbz hS.2.2.2.2.2.2.2.1) (And.intro (cell_keep hbz hS.2.2.2.2.2.2.2.2.1) (cell_keep hbz hS.2.2.2.2.2.2.2.2.2)))))))))
  refine hK _ _ (fun _ => hS3) ?_
  clear hK K hS hbz
  have hS := hS3
  clear hS3
  try simp only [Act.put, List.getElem_toArray, List.getElem_cons_zero, List.getElem_cons_succ, List.setIfInBounds_toArray, List.set_cons_zero, List.set_cons_succ]
  refine upto_takeN (i := 2) (v := ?_) rfl (by kernel_rfl) (by kernel_rfl) (by kernel_rfl) (by kernel_rfl) (fun _ _ _ h => h) (by rfl) hS ?_ ?_
  rotate_left
  · intro wS hSw
    try dsimp only at hSw
    first | (go_simp; done) | (go_simp; with_reducible rfl)
  try simp only [Act.put, List.getElem_toArray, List.getElem_cons_zero, List.getElem_cons_succ, List.setIfInBounds_toArray, List.set_cons_zero, List.set_cons_succ]
  refine upto_step (i := 4) (by kernel_rfl) rfl ?_
  intro K hK
  go_simp
  refine hK _ _ (fun _ => hS) ?_
  clear hK K hbk hlk hfd
  try simp only [Act.put, List.getElem_toArray, List.getElem_cons_zero, List.getElem_cons_succ, List.setIfInBounds_toArray, List.set_cons_zero, List.set_cons_succ]
  refine upto_takeN (i := 5) (v := ?_) rfl (by kernel_rfl) (by kernel_rfl) (by kernel_rfl) (by kernel_rfl) (fun _ _ _ h => h) (by rfl) hS ?_ ?_
  rotate_left
  · intro wS hSw
    try dsimp only at hSw
    first | (go_simp; done) | (go_simp; with_reducible rfl)
  try simp only [Act.put, List.getElem_toArray, List.getElem_cons_zero, List.getElem_cons_succ, List.setIfInBounds_toArray, List.set_cons_zero, List.set_cons_succ]
  refine upto_done (by kernel_rfl) ?_
  refine NoPanic.normal ?_
  have hB4 : Below w.heap.size w wz := bstep hB3 hS.1
  obtain ⟨w4, hw4⟩ : ∃ w4, w4 = wz := ⟨_, rfl⟩
  have hb4 : Below w3.heap.size w3 w4 := by rw [hw4]; exact hS.1
  rw [← hw4] at hB4 ⊢
  replace y0 := cell_keep hb4 y0
  replace y1 := cell_keep hb4 y1
  replace y2 := cell_keep hb4 y2
  replace y3 := cell_keep hb4 y3
  replace y4 := cell_keep hb4 y4
  replace y5 := cell_keep hb4 y5
  replace r0 := cell_keep hb4 r0
  replace r1 := cell_keep hb4 r1
  replace rf : ∀ o, w4.frozen? ⟨w.heap.size + 1, o, none⟩ = false := fun o => by rw [(bcell hb4).2 _ _ (by omega)]; exact rf o
  replace k0 := cell_keep hb4 k0
  replace k1 := cell_keep hb4 k1
  replace k2 := cell_keep hb4 k2
  have hz4 := hb4.size
  have q0 := k0
  have q1 := k1
  have q2 := k2
  clear hS hw4 HBo' HLk
  try clear hbk
  go_wp2
  go_loopw [9, 42] (fun n i w' => ∃ (k : Nat) (c : Int), k ≤ n3 ∧ n = .int .i64 c ∧ i = .int .i64 k ∧ Hid (c = hb0 + freeK d a t k) ∧ Below w4.heap.size w4 w') (fun n i _ => n3 - (intOf i).toNat)
  case atStart => exact ⟨0, hb0, Nat.zero_le _, rfl, rfl, by show hb0 = hb0 + freeK d a t 0; unfold freeK; omega, by (repeat (first | exact Below.refl _ _ | assumption | refine Below.drew ?_ | refine balloc ?_ _ | refine bset ?_ (by simp; omega) _ | refine bset ?_ (by simp) _ | refine bstep ?_ (by assumption)))⟩
  case round =>
    obtain ⟨k, c, hk, rfl, rfl, HCc, hbl⟩ := hrel
    have hBr : Below w.heap.size w wr := bstep hB4 hbl
    have zr := hbl.size
    replace k0 := cell_keep hbl k0
    replace k1 := cell_keep hbl k1
    replace k2 := cell_keep hbl k2
    replace r0 := cell_keep hbl r0
    replace r1 := cell_keep hbl r1
    replace rf : ∀ o, wr.frozen? ⟨w.heap.size + 1, o, none⟩ = false := fun o => by rw [(bcell hbl).2 _ _ (by omega)]; exact rf o
    by_cases hlt : k < n3
    · obtain ⟨bx, ox, pp, qq, rfl, g0, g1, hV⟩ := HX.out k hlt
      obtain ⟨ul, hul, hvl⟩ := hV
      simp only [Value.agg.injEq, Array.mk.injEq, List.cons.injEq, and_true, true_and] at hul
      subst hul
      have hkb := HKb'.out k (by omega)
      have hlen : (d.held.getD k default).legs.length ≤ 8 := (HHl'.out k hlt).1
      have HSm : Hid (∀ j, j < (d.held.getD k default).legs.length → -1000000000000 ≤ ((d.held.getD k default).legs.getD j default).am ∧ ((d.held.getD k default).legs.getD j default).am ≤ 1000000000000) := (HHl'.out k hlt).2.2.2
      have HSb : Hid (∀ j, j ≤ (d.held.getD k default).legs.length → -(1000000000000 * (j : Int)) ≤ sumT (cutI d.idx a t) (d.held.getD k default).legs j ∧ sumT (cutI d.idx a t) (d.held.getD k default).legs j ≤ 0) := sumT_le (fun j hj => cutI_le (HSm.out j hj))
      have HSs : Hid (∀ j, j < (d.held.getD k default).legs.length → sumT (cutI d.idx a t) (d.held.getD k default).legs (j + 1) = sumT (cutI d.idx a t) (d.held.getD k default).legs j + cutI d.idx a t ((d.held.getD k default).legs.getD j default)) := fun j hj => sumT_succ hj
      have HSe : Hid (hb0 + freeK d a t k + sumT (cutI d.idx a t) (d.held.getD k default).legs (d.held.getD k default).legs.length = hb0 + freeK d a t (k + 1)) := by show _ = _; rw [sumT_all, HKs.out, freeL_on]; unfold legsH; omega
      obtain ⟨B, hBv⟩ : ∃ B, B = hb0 + freeK d a t k := ⟨_, rfl⟩
      have hBb : -800000000000000 ≤ B ∧ B ≤ 1000000000000 := by omega
      rw [← hBv] at HSe HCc
      have HCB := HCc.out.symm
      subst HCB
      obtain ⟨_, _, eg, hcg, hmg, hxg⟩ := hvl
      simp only [Value.slice.injEq, true_and] at eg
      obtain ⟨rfl, rfl⟩ := eg
      unfold maxLen at hmg
      have HXg : Hid (∀ i, i < (d.held.getD k default).legs.length → ∃ b o, pp = some ⟨b, o, none⟩ ∧ legCells w b (o + i * 4) ((d.held.getD k default).legs.getD i default)) := hxg
      clear hBv hkb hxg
      generalize (d.held.getD k default).id = qid at *
      generalize (d.held.getD k default).legs = lg at *
      obtain ⟨m, hm⟩ : ∃ m, m = lg.length := ⟨_, rfl⟩
      rw [← hm] at HSm HSb HSs HSe HXg hlen hcg g1
      clear hm
      replace g0 := cell_keep hBr g0
      replace g1 := cell_keep hBr g1
      have zb : bx < wr.heap.size := World.block_lt_of_cell? wr _ g0
      go_wp2
      go_loopw [9, 49] (fun n i w' => ∃ (j : Nat) (c : Int), j ≤ m ∧ n = .int .i64 c ∧ i = .int .i64 j ∧ Hid (c = B + sumT (cutI d.idx a t) lg j) ∧ Below w4.heap.size w4 w') (fun n i _ => m - (intOf i).toNat)
      case atStart => exact ⟨0, B, Nat.zero_le _, rfl, rfl, by show B = B + sumT (cutI d.idx a t) lg 0; rw [sumT_zero]; omega, by (repeat (first | exact Below.refl _ _ | assumption | refine Below.drew ?_ | refine balloc ?_ _ | refine bset ?_ (by simp; omega) _ | refine bset ?_ (by simp) _ | refine bstep ?_ (by assumption)))⟩
      case round =>
        obtain ⟨j, c, hj, rfl, rfl, HCj, hbl2⟩ := hrel
        clear k0 k1 k2
        have k0 := cell_keep hbl2 q0
        have k1 := cell_keep hbl2 q1
        have k2 := cell_keep hbl2 q2
        have zk : w2.heap.size < wr.heap.size := World.block_lt_of_cell? wr _ k0
        by_cases hlt2 : j < m
        · obtain ⟨bg, og, rfl, g2⟩ := HXg.out j hlt2
          have h1 := HSs.out j hlt2
          have h2' := HSm.out j hlt2
          have h3' := HSb.out j hj
          obtain ⟨l, hl⟩ : ∃ l, l = lg.getD j default := ⟨_, rfl⟩
          rw [← hl] at g2 h1 h2'
          have H1 : Hid (sumT (cutI d.idx a t) lg (j + 1) = sumT (cutI d.idx a t) lg j + cutI d.idx a t l) := h1
          have hcb : -900000000000000 ≤ c ∧ c ≤ 1000000000000 := by have := HCj.out; omega
          clear hl h1 h3'
          obtain ⟨e0, e1, e2, e3⟩ := (legKeep (bstep hB4 hbl2) g2).2
          have zg : bg < wr.heap.size := World.block_lt_of_cell? wr _ e0
          have HKl : Hid (∀ W, Calls Tryz.prog 85 #[.agg #[.int .i64 l.sh, .int .i64 l.ac, .int .i64 l.ast, .int .i64 l.am]] W fun e w' => e = .returned (.agg #[.int .i64 l.sh, .int .i64 l.ac, .int .i64 l.ast]) ∧ Below W.heap.size W w') := fun W => keyOfLeg_any l W
          have hEq : ∀ W, (binOp .eql 114 (.agg #[.int .i64 l.sh, .int .i64 l.ac, .int .i64 l.ast]) (.agg #[.int .i64 d.idx, .int .i64 a, .int .i64 t])).run Tryz.prog W = .ok (.bool (decide (l.sh = d.idx ∧ l.ac = a ∧ l.ast = t))) W := fun W => eqlK _ _ _ _ _ _ W
          by_cases hm : l.sh = d.idx ∧ l.ac = a ∧ l.ast = t
          · rw [decide_eq_true hm] at hEq
            by_cases hn : l.am < 0
            · have HC : Hid (c + l.am = B + sumT (cutI d.idx a t) lg (j + 1)) := by
                show _ = _
                rw [H1.out, HCj.out]
                unfold cutI
                rw [if_pos (show (l.sh = d.idx ∧ l.ac = a ∧ l.ast = t) ∧ l.am < 0 from ⟨hm, hn⟩)]
                omega
              have hwq : IntKind.i64.wrap (c + l.am) = c + l.am := wrapId (by omega) (by omega)
              clear HCj H1 hm
              go_wp2
              obtain ⟨wl, hwl⟩ : ∃ wl, wl = wr.alloc (.cells #[.int .i64 l.sh, .int .i64 l.ac, .int .i64 l.ast, .int .i64 l.am] 111) := ⟨_, rfl⟩
              have b0 : wl.cell? ⟨wr.heap.size, 0, none⟩ = some (.int .i64 l.sh) := by rw [hwl]; simp [go_sem]
              have b1 : wl.cell? ⟨wr.heap.size, 1, none⟩ = some (.int .i64 l.ac) := by rw [hwl]; simp [go_sem]
              have b2 : wl.cell? ⟨wr.heap.size, 2, none⟩ = some (.int .i64 l.ast) := by rw [hwl]; simp [go_sem]
              have b3 : wl.cell? ⟨wr.heap.size, 3, none⟩ = some (.int .i64 l.am) := by rw [hwl]; simp [go_sem]
              have hbw : Below wr.heap.size wr wl := by rw [hwl]; (repeat (first | exact Below.refl _ _ | assumption | refine Below.drew ?_ | refine balloc ?_ _ | refine bset ?_ (by simp; omega) _ | refine bset ?_ (by simp) _ | refine bstep ?_ (by assumption)))
              rw [← hwl]
              clear hwl
              replace k0 := cell_keep hbw k0
              replace k1 := cell_keep hbw k1
              replace k2 := cell_keep hbw k2
              refine wp_region_noPanic ?_
              refine region_upto (fun W => Below wl.heap.size wl W ∧ W.cell? ⟨w2.heap.size, 0, none⟩ = some (.int .i64 d.idx) ∧ W.cell? ⟨w2.heap.size, 1, none⟩ = some (.int .i64 a) ∧ W.cell? ⟨w2.heap.size, 2, none⟩ = some (.int .i64 t) ∧ W.cell? ⟨wr.heap.size, 0, none⟩ = some (.int .i64 l.sh) ∧ W.cell? ⟨wr.heap.size, 1, none⟩ = some (.int .i64 l.ac) ∧ W.cell? ⟨wr.heap.size, 2, none⟩ = some (.int .i64 l.ast) ∧ W.cell? ⟨wr.heap.size, 3, none⟩ = some (.int .i64 l.am)) 9 (by kernel_rfl) ⟨by (repeat (first | exact Below.refl _ _ | assumption | refine Below.drew ?_ | refine balloc ?_ _ | refine bset ?_ (by simp; omega) _ | refine bset ?_ (by simp) _ | refine bstep ?_ (by assumption))), cell_keep (by (repeat (first | exact Below.refl _ _ | assumption | refine Below.drew ?_ | refine balloc ?_ _ | refine bset ?_ (by simp; omega) _ | refine bset ?_ (by simp) _ | refine bstep ?_ (by assumption)))) k0, cell_keep (by (repeat (first | exact Below.refl _ _ | assumption | refine Below.drew ?_ | refine balloc ?_ _ | refine bset ?_ (by simp; omega) _ | refine bset ?_ (by simp) _ | refine bstep ?_ (by assumption)))) k1, cell_keep (by (repeat (first | exact Below.refl _ _ | assumption | refine Below.drew ?_ | refine balloc ?_ _ | refine bset ?_ (by simp; omega) _ | refine bset ?_ (by simp) _ | refine bstep ?_ (by assumption)))) k2, cell_keep (by (repeat (first | exact Below.refl _ _ | assumption | refine Below.drew ?_ | refine balloc ?_ _ | refine bset ?_ (by simp; omega) _ | refine bset ?_ (by simp) _ | refine bstep ?_ (by assumption)))) b0, cell_keep (by (repeat (first | exact Below.refl _ _ | assumption | refine Below.drew ?_ | refine balloc ?_ _ | refine bset ?_ (by simp; omega) _ | refine bset ?_ (by simp) _ | refine bstep ?_ (by assumption)))) b1, cell_keep (by (repeat (first | exact Below.refl _ _ | assumption | refine Below.drew ?_ | refine balloc ?_ _ | refine bset ?_ (by simp; omega) _ | refine bset ?_ (by simp) _ | refine bstep ?_ (by assumption)))) b2, cell_keep (by (repeat (first | exact Below.refl _ _ | assumption | refine Below.drew ?_ | refine balloc ?_ _ | refine bset ?_ (by simp; omega) _ | refine bset ?_ (by simp) _ | refine bstep ?_ (by assumption)))) b3⟩ (fun hS => ?_)
              refine upto_takeN (i := 0) (v := ?_) rfl (by kernel_rfl) (by kernel_rfl) (by kernel_rfl) (by kernel_rfl) (fun _ _ _ h => h) (by rfl) hS ?_ ?_
              rotate_left
              · intro wS hSw
                try dsimp only at hSw
                first | (go_simp; done) | (go_simp; with_reducible rfl)
              try simp only [Act.put, List.getElem_toArray, List.getElem_cons_zero, List.getElem_cons_succ, List.setIfInBounds_toArray, List.set_cons_zero, List.set_cons_succ]
              refine upto_takeN (i := 2) (v := ?_) rfl (by kernel_rfl) (by kernel_rfl) (by kernel_rfl) (by kernel_rfl) (fun _ _ _ h => h) (by rfl) hS ?_ ?_
              rotate_left
              · intro wS hSw
                try dsimp only at hSw
                first | (go_simp; done) | (go_simp; with_reducible rfl)
              try simp only [Act.put, List.getElem_toArray, List.getElem_cons_zero, List.getElem_cons_succ, List.setIfInBounds_toArray, List.set_cons_zero, List.set_cons_succ]
              refine upto_step (i := 1) (by kernel_rfl) rfl ?_
              intro K hK
              go_simp
              refine (HKl.out _).mono ?_
              rintro e wz ⟨rfl, hbz⟩
              have hbz' : Below wl.heap.size wl wz := bstep hS.1 hbz
              have hS3 := And.intro hbz' (And.intro (cell_keep hbz hS.2.1) (And.intro (cell_keep hbz hS.2.2.1) (And.intro (cell_keep hbz hS.2.2.2.1) (And.intro (cell_keep hbz hS.2.2.2.2.1) (And.intro (cell_keep hbz hS.2.2.2.2.2.1) (And.intro (cell_keep hbz hS.2.2.2.2.2.2.1) (cell_keep hbz hS.2.2.2.2.2.2.2)))))))
              refine hK _ _ (fun _ => hS3) ?_
              clear hK K hS hbz
              have hS := hS3
              clear hS3
              try simp only [Act.put, List.getElem_toArray, List.getElem_cons_zero, List.getElem_cons_succ, List.setIfInBounds_toArray, List.set_cons_zero, List.set_cons_succ]
              refine upto_takeN (i := 3) (v := (.bool true)) rfl (by kernel_rfl) (by kernel_rfl) (by kernel_rfl) (by kernel_rfl) (fun _ _ _ h => h) (by rfl) hS ?_ ?_
              · intro wS hSw
                try dsimp only at hSw
                go_simp
              try simp only [Act.put, List.getElem_toArray, List.getElem_cons_zero, List.getElem_cons_succ, List.setIfInBounds_toArray, List.set_cons_zero, List.set_cons_succ]
              refine upto_takeN (i := 4) (v := (.bool true)) rfl (by kernel_rfl) (by kernel_rfl) (by kernel_rfl) (by kernel_rfl) (fun _ _ _ h => h) (by rfl) hS ?_ ?_
              · intro wS hSw
                try dsimp only at hSw
                go_simp
              try simp only [Act.put, List.getElem_toArray, List.getElem_cons_zero, List.getElem_cons_succ, List.setIfInBounds_toArray, List.set_cons_zero, List.set_cons_succ]
              refine upto_takeN (i := 5) (v := ?_) rfl (by kernel_rfl) (by kernel_rfl) (by kernel_rfl) (by kernel_rfl) (fun _ _ _ h => h) (by rfl) hS ?_ ?_
              rotate_left
              · intro wS hSw
                try dsimp only at hSw
                first | (go_simp; done) | (go_simp; with_reducible rfl)
              try simp only [Act.put, List.getElem_toArray, List.getElem_cons_zero, List.getElem_cons_succ, List.setIfInBounds_toArray, List.set_cons_zero, List.set_cons_succ]
              refine upto_takeN (i := 6) (v := ?_) rfl (by kernel_rfl) (by kernel_rfl) (by kernel_rfl) (by kernel_rfl) (fun _ _ _ h => h) (by rfl) hS ?_ ?_
              rotate_left
              · intro wS hSw
                try dsimp only at hSw
                first | (go_simp; done) | (go_simp; with_reducible rfl)
              try simp only [Act.put, List.getElem_toArray, List.getElem_cons_zero, List.getElem_cons_succ, List.setIfInBounds_toArray, List.set_cons_zero, List.set_cons_succ]
              refine upto_takeN (i := 7) (v := (.bool true)) rfl (by kernel_rfl) (by kernel_rfl) (by kernel_rfl) (by kernel_rfl) (fun _ _ _ h => h) (by rfl) hS ?_ ?_
              · intro wS hSw
                try dsimp only at hSw
                go_simp
              try simp only [Act.put, List.getElem_toArray, List.getElem_cons_zero, List.getElem_cons_succ, List.setIfInBounds_toArray, List.set_cons_zero, List.set_cons_succ]
              refine upto_takeN (i := 8) (v := (.bool true)) rfl (by kernel_rfl) (by kernel_rfl) (by kernel_rfl) (by kernel_rfl) (fun _ _ _ h => h) (by rfl) hS ?_ ?_
              · intro wS hSw
                try dsimp only at hSw
                go_simp
              try simp only [Act.put, List.getElem_toArray, List.getElem_cons_zero, List.getElem_cons_succ, List.setIfInBounds_toArray, List.set_cons_zero, List.set_cons_succ]
              refine upto_done (by kernel_rfl) ?_
              refine NoPanic.normal ?_
              have hBl : Below w4.heap.size w4 wz := bstep hbl2 (bstep hbw hS.1)
              go_wp2
              have hw3 := hS.2.2.2.2.2.2.2
              exact ⟨⟨j + 1, c + l.am, by omega, by first | rfl | (rw [hwq]), by go_num, HC, hBl⟩, by simp [intOf]; omega⟩
            · have hn' : 0 ≤ l.am := by omega
              have HC : Hid (c = B + sumT (cutI d.idx a t) lg (j + 1)) := by
                show _ = _
                rw [H1.out, HCj.out]
                unfold cutI
                rw [if_neg (fun h => hn h.2)]
                omega
              clear HCj H1
              clear hm
              go_wp2
              obtain ⟨wl, hwl⟩ : ∃ wl, wl = wr.alloc (.cells #[.int .i64 l.sh, .int .i64 l.ac, .int .i64 l.ast, .int .i64 l.am] 111) := ⟨_, rfl⟩
              have b0 : wl.cell? ⟨wr.heap.size, 0, none⟩ = some (.int .i64 l.sh) := by rw [hwl]; simp [go_sem]
              have b1 : wl.cell? ⟨wr.heap.size, 1, none⟩ = some (.int .i64 l.ac) := by rw [hwl]; simp [go_sem]
              have b2 : wl.cell? ⟨wr.heap.size, 2, none⟩ = some (.int .i64 l.ast) := by rw [hwl]; simp [go_sem]
              have b3 : wl.cell? ⟨wr.heap.size, 3, none⟩ = some (.int .i64 l.am) := by rw [hwl]; simp [go_sem]
              have hbw : Below wr.heap.size wr wl := by rw [hwl]; (repeat (first | exact Below.refl _ _ | assumption | refine Below.drew ?_ | refine balloc ?_ _ | refine bset ?_ (by simp; omega) _ | refine bset ?_ (by simp) _ | refine bstep ?_ (by assumption)))
              rw [← hwl]
              clear hwl
              replace k0 := cell_keep hbw k0
              replace k1 := cell_keep hbw k1
              replace k2 := cell_keep hbw k2
              refine wp_region_noPanic ?_
              refine region_upto (fun W => Below wl.heap.size wl W ∧ W.cell? ⟨w2.heap.size, 0, none⟩ = some (.int .i64 d.idx) ∧ W.cell? ⟨w2.heap.size, 1, none⟩ = some (.int .i64 a) ∧ W.cell? ⟨w2.heap.size, 2, none⟩ = some (.int .i64 t) ∧ W.cell? ⟨wr.heap.size, 0, none⟩ = some (.int .i64 l.sh) ∧ W.cell? ⟨wr.heap.size, 1, none⟩ = some (.int .i64 l.ac) ∧ W.cell? ⟨wr.heap.size, 2, none⟩ = some (.int .i64 l.ast) ∧ W.cell? ⟨wr.heap.size, 3, none⟩ = some (.int .i64 l.am)) 9 (by kernel_rfl) ⟨by (repeat (first | exact Below.refl _ _ | assumption | refine Below.drew ?_ | refine balloc ?_ _ | refine bset ?_ (by simp; omega) _ | refine bset ?_ (by simp) _ | refine bstep ?_ (by assumption))), cell_keep (by (repeat (first | exact Below.refl _ _ | assumption | refine Below.drew ?_ | refine balloc ?_ _ | refine bset ?_ (by simp; omega) _ | refine bset ?_ (by simp) _ | refine bstep ?_ (by assumption)))) k0, cell_keep (by (repeat (first | exact Below.refl _ _ | assumption | refine Below.drew ?_ | refine balloc ?_ _ | refine bset ?_ (by simp; omega) _ | refine bset ?_ (by simp) _ | refine bstep ?_ (by assumption)))) k1, cell_keep (by (repeat (first | exact Below.refl _ _ | assumption | refine Below.drew ?_ | refine balloc ?_ _ | refine bset ?_ (by simp; omega) _ | refine bset ?_ (by simp) _ | refine bstep ?_ (by assumption)))) k2, cell_keep (by (repeat (first | exact Below.refl _ _ | assumption | refine Below.drew ?_ | refine balloc ?_ _ | refine bset ?_ (by simp; omega) _ | refine bset ?_ (by simp) _ | refine bstep ?_ (by assumption)))) b0, cell_keep (by (repeat (first | exact Below.refl _ _ | assumption | refine Below.drew ?_ | refine balloc ?_ _ | refine bset ?_ (by simp; omega) _ | refine bset ?_ (by simp) _ | refine bstep ?_ (by assumption)))) b1, cell_keep (by (repeat (first | exact Below.refl _ _ | assumption | refine Below.drew ?_ | refine balloc ?_ _ | refine bset ?_ (by simp; omega) _ | refine bset ?_ (by simp) _ | refine bstep ?_ (by assumption)))) b2, cell_keep (by (repeat (first | exact Below.refl _ _ | assumption | refine Below.drew ?_ | refine balloc ?_ _ | refine bset ?_ (by simp; omega) _ | refine bset ?_ (by simp) _ | refine bstep ?_ (by assumption)))) b3⟩ (fun hS => ?_)
              refine upto_takeN (i := 0) (v := ?_) rfl (by kernel_rfl) (by kernel_rfl) (by kernel_rfl) (by kernel_rfl) (fun _ _ _ h => h) (by rfl) hS ?_ ?_
              rotate_left
              · intro wS hSw
                try dsimp only at hSw
                first | (go_simp; done) | (go_simp; with_reducible rfl)
              try simp only [Act.put, List.getElem_toArray, List.getElem_cons_zero, List.getElem_cons_succ, List.setIfInBounds_toArray, List.set_cons_zero, List.set_cons_succ]
              refine upto_takeN (i := 2) (v := ?_) rfl (by kernel_rfl) (by kernel_rfl) (by kernel_rfl) (by kernel_rfl) (fun _ _ _ h => h) (by rfl) hS ?_ ?_
              rotate_left
              · intro wS hSw
                try dsimp only at hSw
                first | (go_simp; done) | (go_simp; with_reducible rfl)
              try simp only [Act.put, List.getElem_toArray, List.getElem_cons_zero, List.getElem_cons_succ, List.setIfInBounds_toArray, List.set_cons_zero, List.set_cons_succ]
              refine upto_step (i := 1) (by kernel_rfl) rfl ?_
              intro K hK
              go_simp
              refine (HKl.out _).mono ?_
              rintro e wz ⟨rfl, hbz⟩
              have hbz' : Below wl.heap.size wl wz := bstep hS.1 hbz
              have hS3 := And.intro hbz' (And.intro (cell_keep hbz hS.2.1) (And.intro (cell_keep hbz hS.2.2.1) (And.intro (cell_keep hbz hS.2.2.2.1) (And.intro (cell_keep hbz hS.2.2.2.2.1) (And.intro (cell_keep hbz hS.2.2.2.2.2.1) (And.intro (cell_keep hbz hS.2.2.2.2.2.2.1) (cell_keep hbz hS.2.2.2.2.2.2.2)))))))
              refine hK _ _ (fun _ => hS3) ?_
              clear hK K hS hbz
              have hS := hS3
              clear hS3
              try simp only [Act.put, List.getElem_toArray, List.getElem_cons_zero, List.getElem_cons_succ, List.setIfInBounds_toArray, List.set_cons_zero, List.set_cons_succ]
              refine upto_takeN (i := 3) (v := (.bool true)) rfl (by kernel_rfl) (by kernel_rfl) (by kernel_rfl) (by kernel_rfl) (fun _ _ _ h => h) (by rfl) hS ?_ ?_
              · intro wS hSw
                try dsimp only at hSw
                go_simp
              try simp only [Act.put, List.getElem_toArray, List.getElem_cons_zero, List.getElem_cons_succ, List.setIfInBounds_toArray, List.set_cons_zero, List.set_cons_succ]
              refine upto_takeN (i := 4) (v := (.bool true)) rfl (by kernel_rfl) (by kernel_rfl) (by kernel_rfl) (by kernel_rfl) (fun _ _ _ h => h) (by rfl) hS ?_ ?_
              · intro wS hSw
                try dsimp only at hSw
                go_simp
              try simp only [Act.put, List.getElem_toArray, List.getElem_cons_zero, List.getElem_cons_succ, List.setIfInBounds_toArray, List.set_cons_zero, List.set_cons_succ]
              refine upto_takeN (i := 5) (v := ?_) rfl (by kernel_rfl) (by kernel_rfl) (by kernel_rfl) (by kernel_rfl) (fun _ _ _ h => h) (by rfl) hS ?_ ?_
              rotate_left
              · intro wS hSw
                try dsimp only at hSw
                first | (go_simp; done) | (go_simp; with_reducible rfl)
              try simp only [Act.put, List.getElem_toArray, List.getElem_cons_zero, List.getElem_cons_succ, List.setIfInBounds_toArray, List.set_cons_zero, List.set_cons_succ]
              refine upto_takeN (i := 6) (v := ?_) rfl (by kernel_rfl) (by kernel_rfl) (by kernel_rfl) (by kernel_rfl) (fun _ _ _ h => h) (by rfl) hS ?_ ?_
              rotate_left
              · intro wS hSw
                try dsimp only at hSw
                first | (go_simp; done) | (go_simp; with_reducible rfl)
              try simp only [Act.put, List.getElem_toArray, List.getElem_cons_zero, List.getElem_cons_succ, List.setIfInBounds_toArray, List.set_cons_zero, List.set_cons_succ]
              refine upto_takeN (i := 7) (v := (.bool false)) rfl (by kernel_rfl) (by kernel_rfl) (by kernel_rfl) (by kernel_rfl) (fun _ _ _ h => h) (by rfl) hS ?_ ?_
              · intro wS hSw
                try dsimp only at hSw
                go_simp
              try simp only [Act.put, List.getElem_toArray, List.getElem_cons_zero, List.getElem_cons_succ, List.setIfInBounds_toArray, List.set_cons_zero, List.set_cons_succ]
              refine upto_takeN (i := 8) (v := (.bool false)) rfl (by kernel_rfl) (by kernel_rfl) (by kernel_rfl) (by kernel_rfl) (fun _ _ _ h => h) (by rfl) hS ?_ ?_
              · intro wS hSw
                try dsimp only at hSw
                go_simp
              try simp only [Act.put, List.getElem_toArray, List.getElem_cons_zero, List.getElem_cons_succ, List.setIfInBounds_toArray, List.set_cons_zero, List.set_cons_succ]
              refine upto_done (by kernel_rfl) ?_
              refine NoPanic.normal ?_
              have hBl : Below w4.heap.size w4 wz := bstep hbl2 (bstep hbw hS.1)
              go_wp2
              exact ⟨⟨j + 1, c, by omega, rfl, by go_num, HC, hBl⟩, by simp [intOf]; omega⟩
          · rw [decide_eq_false hm] at hEq
            have HC : Hid (c = B + sumT (cutI d.idx a t) lg (j + 1)) := by
              show _ = _
              rw [H1.out, HCj.out]
              unfold cutI
              rw [if_neg (fun h => hm h.1)]
              omega
            clear HCj H1
            clear hm
            go_wp2
            obtain ⟨wl, hwl⟩ : ∃ wl, wl = wr.alloc (.cells #[.int .i64 l.sh, .int .i64 l.ac, .int .i64 l.ast, .int .i64 l.am] 111) := ⟨_, rfl⟩
            have b0 : wl.cell? ⟨wr.heap.size, 0, none⟩ = some (.int .i64 l.sh) := by rw [hwl]; simp [go_sem]
            have b1 : wl.cell? ⟨wr.heap.size, 1, none⟩ = some (.int .i64 l.ac) := by rw [hwl]; simp [go_sem]
            have b2 : wl.cell? ⟨wr.heap.size, 2, none⟩ = some (.int .i64 l.ast) := by rw [hwl]; simp [go_sem]
            have b3 : wl.cell? ⟨wr.heap.size, 3, none⟩ = some (.int .i64 l.am) := by rw [hwl]; simp [go_sem]
            have hbw : Below wr.heap.size wr wl := by rw [hwl]; (repeat (first | exact Below.refl _ _ | assumption | refine Below.drew ?_ | refine balloc ?_ _ | refine bset ?_ (by simp; omega) _ | refine bset ?_ (by simp) _ | refine bstep ?_ (by assumption)))
            rw [← hwl]
            clear hwl
            replace k0 := cell_keep hbw k0
            replace k1 := cell_keep hbw k1
            replace k2 := cell_keep hbw k2
            refine wp_region_noPanic ?_
            refine region_upto (fun W => Below wl.heap.size wl W ∧ W.cell? ⟨w2.heap.size, 0, none⟩ = some (.int .i64 d.idx) ∧ W.cell? ⟨w2.heap.size, 1, none⟩ = some (.int .i64 a) ∧ W.cell? ⟨w2.heap.size, 2, none⟩ = some (.int .i64 t) ∧ W.cell? ⟨wr.heap.size, 0, none⟩ = some (.int .i64 l.sh) ∧ W.cell? ⟨wr.heap.size, 1, none⟩ = some (.int .i64 l.ac) ∧ W.cell? ⟨wr.heap.size, 2, none⟩ = some (.int .i64 l.ast) ∧ W.cell? ⟨wr.heap.size, 3, none⟩ = some (.int .i64 l.am)) 9 (by kernel_rfl) ⟨by (repeat (first | exact Below.refl _ _ | assumption | refine Below.drew ?_ | refine balloc ?_ _ | refine bset ?_ (by simp; omega) _ | refine bset ?_ (by simp) _ | refine bstep ?_ (by assumption))), cell_keep (by (repeat (first | exact Below.refl _ _ | assumption | refine Below.drew ?_ | refine balloc ?_ _ | refine bset ?_ (by simp; omega) _ | refine bset ?_ (by simp) _ | refine bstep ?_ (by assumption)))) k0, cell_keep (by (repeat (first | exact Below.refl _ _ | assumption | refine Below.drew ?_ | refine balloc ?_ _ | refine bset ?_ (by simp; omega) _ | refine bset ?_ (by simp) _ | refine bstep ?_ (by assumption)))) k1, cell_keep (by (repeat (first | exact Below.refl _ _ | assumption | refine Below.drew ?_ | refine balloc ?_ _ | refine bset ?_ (by simp; omega) _ | refine bset ?_ (by simp) _ | refine bstep ?_ (by assumption)))) k2, cell_keep (by (repeat (first | exact Below.refl _ _ | assumption | refine Below.drew ?_ | refine balloc ?_ _ | refine bset ?_ (by simp; omega) _ | refine bset ?_ (by simp) _ | refine bstep ?_ (by assumption)))) b0, cell_keep (by (repeat (first | exact Below.refl _ _ | assumption | refine Below.drew ?_ | refine balloc ?_ _ | refine bset ?_ (by simp; omega) _ | refine bset ?_ (by simp) _ | refine bstep ?_ (by assumption)))) b1, cell_keep (by (repeat (first | exact Below.refl _ _ | assumption | refine Below.drew ?_ | refine balloc ?_ _ | refine bset ?_ (by simp; omega) _ | refine bset ?_ (by simp) _ | refine bstep ?_ (by assumption)))) b2, cell_keep (by (repeat (first | exact Below.refl _ _ | assumption | refine Below.drew ?_ | refine balloc ?_ _ | refine bset ?_ (by simp; omega) _ | refine bset ?_ (by simp) _ | refine bstep ?_ (by assumption)))) b3⟩ (fun hS => ?_)
            refine upto_takeN (i := 0) (v := ?_) rfl (by kernel_rfl) (by kernel_rfl) (by kernel_rfl) (by kernel_rfl) (fun _ _ _ h => h) (by rfl) hS ?_ ?_
            rotate_left
            · intro wS hSw
              try dsimp only at hSw
              first | (go_simp; done) | (go_simp; with_reducible rfl)
            try simp only [Act.put, List.getElem_toArray, List.getElem_cons_zero, List.getElem_cons_succ, List.setIfInBounds_toArray, List.set_cons_zero, List.set_cons_succ]
            refine upto_takeN (i := 2) (v := ?_) rfl (by kernel_rfl) (by kernel_rfl) (by kernel_rfl) (by kernel_rfl) (fun _ _ _ h => h) (by rfl) hS ?_ ?_
            rotate_left
            · intro wS hSw
              try dsimp only at hSw
              first | (go_simp; done) | (go_simp; with_reducible rfl)
            try simp only [Act.put, List.getElem_toArray, List.getElem_cons_zero, List.getElem_cons_succ, List.setIfInBounds_toArray, List.set_cons_zero, List.set_cons_succ]
            refine upto_step (i := 1) (by kernel_rfl) rfl ?_
            intro K hK
            go_simp
            refine (HKl.out _).mono ?_
            rintro e wz ⟨rfl, hbz⟩
            have hbz' : Below wl.heap.size wl wz := bstep hS.1 hbz
            have hS3 := And.intro hbz' (And.intro (cell_keep hbz hS.2.1) (And.intro (cell_keep hbz hS.2.2.1) (And.intro (cell_keep hbz hS.2.2.2.1) (And.intro (cell_keep hbz hS.2.2.2.2.1) (And.intro (cell_keep hbz hS.2.2.2.2.2.1) (And.intro (cell_keep hbz hS.2.2.2.2.2.2.1) (cell_keep hbz hS.2.2.2.2.2.2.2)))))))
            refine hK _ _ (fun _ => hS3) ?_
            clear hK K hS hbz
            have hS := hS3
            clear hS3
            try simp only [Act.put, List.getElem_toArray, List.getElem_cons_zero, List.getElem_cons_succ, List.setIfInBounds_toArray, List.set_cons_zero, List.set_cons_succ]
            refine upto_takeN (i := 3) (v := (.bool false)) rfl (by kernel_rfl) (by kernel_rfl) (by kernel_rfl) (by kernel_rfl) (fun _ _ _ h => h) (by rfl) hS ?_ ?_
            · intro wS hSw
              try dsimp only at hSw
              go_simp
            try simp only [Act.put, List.getElem_toArray, List.getElem_cons_zero, List.getElem_cons_succ, List.setIfInBounds_toArray, List.set_cons_zero, List.set_cons_succ]
            refine upto_takeN (i := 4) (v := (.bool false)) rfl (by kernel_rfl) (by kernel_rfl) (by kernel_rfl) (by kernel_rfl) (fun _ _ _ h => h) (by rfl) hS ?_ ?_
            · intro wS hSw
              try dsimp only at hSw
              go_simp
            try simp only [Act.put, List.getElem_toArray, List.getElem_cons_zero, List.getElem_cons_succ, List.setIfInBounds_toArray, List.set_cons_zero, List.set_cons_succ]
            refine upto_skipU (i := 5) rfl (by kernel_rfl) (by kernel_rfl) (by kernel_rfl) (by kernel_rfl) (fun _ _ _ h => h) (by rfl) hS ?_
            try simp only [Act.put, List.getElem_toArray, List.getElem_cons_zero, List.getElem_cons_succ, List.setIfInBounds_toArray, List.set_cons_zero, List.set_cons_succ]
            refine upto_skipU (i := 6) rfl (by kernel_rfl) (by kernel_rfl) (by kernel_rfl) (by kernel_rfl) (fun _ _ _ h => h) (by rfl) hS ?_
            try simp only [Act.put, List.getElem_toArray, List.getElem_cons_zero, List.getElem_cons_succ, List.setIfInBounds_toArray, List.set_cons_zero, List.set_cons_succ]
            refine upto_skipU (i := 7) rfl (by kernel_rfl) (by kernel_rfl) (by kernel_rfl) (by kernel_rfl) (fun _ _ _ h => h) (by rfl) hS ?_
            try simp only [Act.put, List.getElem_toArray, List.getElem_cons_zero, List.getElem_cons_succ, List.setIfInBounds_toArray, List.set_cons_zero, List.set_cons_succ]
            refine upto_takeN (i := 8) (v := (.bool false)) rfl (by kernel_rfl) (by kernel_rfl) (by kernel_rfl) (by kernel_rfl) (fun _ _ _ h => h) (by rfl) hS ?_ ?_
            · intro wS hSw
              try dsimp only at hSw
              go_simp
            try simp only [Act.put, List.getElem_toArray, List.getElem_cons_zero, List.getElem_cons_succ, List.setIfInBounds_toArray, List.set_cons_zero, List.set_cons_succ]
            refine upto_done (by kernel_rfl) ?_
            refine NoPanic.normal ?_
            have hBl : Below w4.heap.size w4 wz := bstep hbl2 (bstep hbw hS.1)
            go_wp2
            exact ⟨⟨j + 1, c, by omega, rfl, by go_num, HC, hBl⟩, by simp [intOf]; omega⟩
        · have hjm : j = m := by omega
          subst hjm
          have HC : Hid (c = hb0 + freeK d a t (k + 1)) := by show _ = _; rw [HCj.out]; exact HSe.out
          clear HCj
          go_wp2
          exact ⟨⟨k + 1, c, by omega, rfl, by go_num, HC, hbl2⟩, by simp [intOf]; omega⟩
    · have hkn : k = n3 := by omega
      subst hkn
      go_wp2
      refine bodyPost_ret (v := .agg #[.int .i64 0, .int .i64 c]) (by simp [results, Tryz.results26, go_sem, r0, r1, rf]) rfl ⟨by rw [HC1, HC2, HCc.out], by (repeat (first | refine bset ?_ (by simp; omega) _ | refine bset ?_ (by simp) _ | refine balloc ?_ _ | assumption))⟩
end Go.Proofs.YtojjdkggomlegaaGreat

