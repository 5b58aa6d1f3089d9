import Derived.Test.YtecfelacdapdgaaGreatPrnPackEventLaw1
import Derived.BigQuiet
import Derived.Deep.QuietTactic
import Derived.Test.YtecfelacdapdgaaGreatPrnPackEventLaw2
import Derived.RegionTactic
import Derived.ChangeAlike
import Derived.BigRegion

/-
  Contracts of the small functions of chapter 1: a number within bounds, what is asked of one leg, on both sides (specification and program).
-/
namespace Go.Proofs.YtecfelacdapdgaaGreat
open Go.RowKit
set_option linter.unusedSectionVars false
variable [DecidableEq Leg] [Inhabited Leg]

def inB (n lo hi : Int) : Bool := decide (lo ≤ n) && decide (n ≤ hi)
set_option maxHeartbeats 400000 in
theorem l1In_any (n lo hi : Int) (w : World) :
    Calls Tryz.prog 38 #[.int .i64 n, .int .i64 lo, .int .i64 hi] w fun e w' => e = .returned (.bool (inB n lo hi)) ∧ w' = w := by
  by_cases h1 : lo ≤ n
  all_goals
    go_enter Tryz.func38, Tryz.ntmps38
    go_wp2
    go_ret
    exact ⟨by first | (simp [inB, h1]; done) | (simp [inB]; omega), rfl⟩
set_option maxHeartbeats 400000 in
theorem within_any (n lo hi : Int) (w : World) :
    Calls Tryz.prog 116 #[.int .i64 n, .int .i64 lo, .int .i64 hi] w fun e w' => e = .returned (.bool (inB n lo hi)) ∧ w' = w := by
  by_cases h1 : lo ≤ n
  all_goals
    go_enter Tryz.func116, Tryz.ntmps116
    go_wp2
    go_ret
    exact ⟨by first | (simp [inB, h1]; done) | (simp [inB]; omega), rfl⟩
set_option maxHeartbeats 400000 in
theorem l1Id_any (n : Int) (w : World) :
    Calls Tryz.prog 37 #[.int .i64 n] w fun e w' => e = .returned (.bool (inB n 1 1000000000)) ∧ w' = w := by
  go_enter Tryz.func37, Tryz.ntmps37
  go_wp2_with (go_at_call 38; refine (l1In_any _ _ _ _).mono ?_; rintro e w' ⟨rfl, rfl⟩)
  go_ret
  exact ⟨rfl, rfl⟩
set_option maxHeartbeats 400000 in
theorem isId_any (n : Int) (w : World) :
    Calls Tryz.prog 96 #[.int .i64 n] w fun e w' => e = .returned (.bool (inB n 1 1000000000)) ∧ w' = w := by
  go_enter Tryz.func96, Tryz.ntmps96
  go_wp2_with (go_at_call 116; refine (within_any _ _ _ _).mono ?_; rintro e w' ⟨rfl, rfl⟩)
  go_ret
  exact ⟨rfl, rfl⟩
set_option maxHeartbeats 400000 in
theorem isShard_any (n : Int) (w : World) :
    Calls Tryz.prog 145 #[.int .i64 n] w fun e w' => e = .returned (.bool (inB n 0 2)) ∧ w' = w := by
  go_enter Tryz.func145, Tryz.ntmps145
  go_wp2_with (go_at_call 116; refine (within_any _ _ _ _).mono ?_; rintro e w' ⟨rfl, rfl⟩)
  go_ret
  exact ⟨rfl, rfl⟩
set_option maxHeartbeats 400000 in
theorem isAccount_any (n : Int) (w : World) :
    Calls Tryz.prog 146 #[.int .i64 n] w fun e w' => e = .returned (.bool (inB n 0 5)) ∧ w' = w := by
  go_enter Tryz.func146, Tryz.ntmps146
  go_wp2_with (go_at_call 116; refine (within_any _ _ _ _).mono ?_; rintro e w' ⟨rfl, rfl⟩)
  go_ret
  exact ⟨rfl, rfl⟩
set_option maxHeartbeats 400000 in
theorem isAsset_any (n : Int) (w : World) :
    Calls Tryz.prog 147 #[.int .i64 n] w fun e w' => e = .returned (.bool (inB n 0 2)) ∧ w' = w := by
  go_enter Tryz.func147, Tryz.ntmps147
  go_wp2_with (go_at_call 116; refine (within_any _ _ _ _).mono ?_; rintro e w' ⟨rfl, rfl⟩)
  go_ret
  exact ⟨rfl, rfl⟩
def placeB (l : Leg) : Bool := inB l.sh 0 2 && inB l.ac 0 5 && inB l.ast 0 2
def legFault (l : Leg) : Int := if placeB l && inB l.am (-1000000000000) 1000000000000 then (if l.am = 0 then 1 else 0) else 3
set_option maxHeartbeats 400000 in
theorem isPlace_any (l : Leg) (w : World) :
    Calls Tryz.prog 124 #[legV l] w fun e w' => e = .returned (.bool (placeB l)) ∧ Below w.heap.size w w' := by
  obtain ⟨a, b, c, d⟩ := l
  unfold legV placeB
  go_enter Tryz.func124, Tryz.ntmps124
  go_wp2_with (first | (go_at_call 145; refine (isShard_any _ _).mono ?_; rintro e w' ⟨rfl, rfl⟩) | (go_at_call 146; refine (isAccount_any _ _).mono ?_; rintro e w' ⟨rfl, rfl⟩) | (go_at_call 147; refine (isAsset_any _ _).mono ?_; rintro e w' ⟨rfl, rfl⟩))
  all_goals
    go_ret
    exact ⟨by simp [*], (by repeat (first | exact Below.refl _ _ | (refine Below.drew ?_) | (refine Below.alloc ?_ (by first | (simp; done) | (simp; omega)) _)))⟩
set_option maxHeartbeats 400000 in
theorem specLegFault_any (l : Leg) (w : World) :
    Calls Tryz.prog 64 #[legV l] w fun e w' => e = .returned (.int .i64 (legFault l)) ∧ Below w.heap.size w w' := by
  obtain ⟨a, b, c, d⟩ := l
  unfold legV
  go_enter Tryz.func64, Tryz.ntmps64
  go_wp2_with (go_at_call 38; refine (l1In_any _ _ _ _).mono ?_; rintro e w' ⟨rfl, rfl⟩)
  all_goals
    go_ret
    exact ⟨by simp_all [legFault, placeB], (by repeat (first | exact Below.refl _ _ | (refine Below.drew ?_) | (refine Below.alloc ?_ (by first | (simp; done) | (simp; omega)) _)))⟩
set_option maxHeartbeats 400000 in
theorem implLegFault_any (l : Leg) (w : World) :
    Calls Tryz.prog 106 #[legV l] w fun e w' => e = .returned (.int .i64 (legFault l)) ∧ Below w.heap.size w w' := by
  obtain ⟨a, b, c, d⟩ := l
  unfold legV
  go_enter Tryz.func106, Tryz.ntmps106
  go_wp2_with (first | (go_at_call 124; refine (isPlace_any ⟨a, b, c, d⟩ _).mono ?_; rintro e w' ⟨rfl, hb⟩; obtain ⟨hc, hf⟩ := bcell hb) | (go_at_call 116; refine (within_any _ _ _ _).mono ?_; rintro e w' ⟨rfl, rfl⟩))
  all_goals
    go_ret
    exact ⟨by simp_all [legFault], ((Below.refl _ _).alloc (Nat.le_refl _) _).trans (hb.mono (by simp))⟩
set_option maxHeartbeats 400000 in
theorem placeOf_any (l : Leg) (w : World) :
    Calls Tryz.prog 125 #[legV l] w fun e w' => e = .returned (legV ⟨l.sh, l.ac, l.ast, 0⟩) ∧ Below w.heap.size w w' := by
  obtain ⟨a, b, c, d⟩ := l
  unfold legV
  go_enter Tryz.func125, Tryz.ntmps125
  go_wp2
  exact bodyPost_ret (v := .agg #[.int .i64 a, .int .i64 b, .int .i64 c, .int .i64 0]) (by simp [results, Tryz.results125, go_sem]) rfl ⟨rfl, (by repeat (first | exact Below.refl _ _ | (refine Below.drew ?_) | (refine Below.alloc ?_ (by first | (simp; done) | (simp; omega)) _)))⟩
end Go.Proofs.YtecfelacdapdgaaGreat

/-
  What is asked of a contract, as plain mathematics: the first leg that is wrong, and the sums of the assets.
-/
namespace Go.Proofs.YtecfelacdapdgaaGreat
open Go.RowKit
set_option linter.unusedSectionVars false
variable [DecidableEq Leg] [Inhabited Leg]

def samePlace (a b : Leg) : Bool := a.sh == b.sh && (a.ac == b.ac && a.ast == b.ast)
def hasPlace (pre : List Leg) (l : Leg) : Bool := pre.any (fun o => samePlace o l)
def scan (pre : List Leg) : List Leg → Int
  | [] => 0
  | l :: r => if legFault l = 0 then (if hasPlace pre l then 7 else scan (pre ++ [l]) r) else legFault l
def sumA (a : Int) : List Leg → Int
  | [] => 0
  | l :: r => (if l.ast = a then l.am else 0) + sumA a r
def contractFault (id : Int) (xs : List Leg) : Int :=
  if inB id 1 1000000000 then
    (if xs.length < 2 ∨ 8 < xs.length then 2
    else if scan [] xs = 0 then (if sumA 0 xs = 0 ∧ sumA 1 xs = 0 ∧ sumA 2 xs = 0 then 0 else 1) else scan [] xs)
  else 3
def okTo (xs : List Leg) (k : Nat) : Prop := ∀ j, j < k → legFault (xs.getD j default) = 0 ∧ hasPlace (xs.take j) (xs.getD j default) = false
theorem drop_cons (xs : List Leg) (k : Nat) (h : k < xs.length) : xs.drop k = xs.getD k default :: xs.drop (k + 1) := by
  rw [List.drop_eq_getElem_cons h]
  simp [List.getD, h]
theorem take_snoc (xs : List Leg) (k : Nat) (h : k < xs.length) : xs.take (k + 1) = xs.take k ++ [xs.getD k default] := by
  rw [List.take_succ_eq_append_getElem h]
  simp [List.getD, h]
theorem scan_at (xs : List Leg) : ∀ k, k ≤ xs.length → okTo xs k → scan [] xs = scan (xs.take k) (xs.drop k)
  | 0, _, _ => by simp
  | k + 1, hk, h => by
    have ih := scan_at xs k (by omega) (fun j hj => h j (by omega))
    obtain ⟨h1, h2⟩ := h k (by omega)
    rw [ih, drop_cons xs k (by omega), scan, if_pos h1, if_neg (by rw [h2]; decide), take_snoc xs k (by omega)]
theorem scan_bad {xs : List Leg} {k : Nat} (hk : k < xs.length) (h : okTo xs k) (hb : ¬ legFault (xs.getD k default) = 0) : scan [] xs = legFault (xs.getD k default) := by
  rw [scan_at xs k (by omega) h, drop_cons xs k hk, scan, if_neg hb]
theorem scan_taken {xs : List Leg} {k : Nat} (hk : k < xs.length) (h : okTo xs k) (h0 : legFault (xs.getD k default) = 0) (hb : hasPlace (xs.take k) (xs.getD k default) = true) : scan [] xs = 7 := by
  rw [scan_at xs k (by omega) h, drop_cons xs k hk, scan, if_pos h0, if_pos hb]
theorem scan_ok {xs : List Leg} (h : okTo xs xs.length) : scan [] xs = 0 := by
  rw [scan_at xs xs.length (Nat.le_refl _) h]; simp [scan]
theorem okTo_succ {xs : List Leg} {k : Nat} (h : okTo xs k) (h0 : legFault (xs.getD k default) = 0) (h1 : hasPlace (xs.take k) (xs.getD k default) = false) : okTo xs (k + 1) := by
  intro j hj
  by_cases e : j < k
  · exact h j e
  · have : j = k := by omega
    subst this
    exact ⟨h0, h1⟩
theorem inB_iff (n lo hi : Int) : inB n lo hi = true ↔ lo ≤ n ∧ n ≤ hi := by simp [inB]
theorem legFault_zero {l : Leg} (h : legFault l = 0) : (0 ≤ l.sh ∧ l.sh ≤ 2) ∧ (0 ≤ l.ac ∧ l.ac ≤ 5) ∧ (0 ≤ l.ast ∧ l.ast ≤ 2) ∧ (-1000000000000 ≤ l.am ∧ l.am ≤ 1000000000000) ∧ l.am ≠ 0 := by
  unfold legFault at h
  split at h
  · rename_i hp
    simp [placeB, inB_iff] at hp
    split at h
    · omega
    · exact ⟨by omega, by omega, by omega, by omega, by assumption⟩
  · omega
theorem sumA_append (a : Int) (l r : List Leg) : sumA a (l ++ r) = sumA a l + sumA a r := by
  induction l with
  | nil => simp [sumA]
  | cons x l ih => simp only [List.cons_append, sumA, ih]; omega
theorem sumA_snoc (a : Int) (xs : List Leg) (k : Nat) (h : k < xs.length) : sumA a (xs.take (k + 1)) = sumA a (xs.take k) + if (xs.getD k default).ast = a then (xs.getD k default).am else 0 := by
  rw [take_snoc xs k h, sumA_append]; simp [sumA]
theorem sumA_bound (a : Int) (xs : List Leg) : ∀ k, k ≤ xs.length → okTo xs k → -(k * 1000000000000 : Int) ≤ sumA a (xs.take k) ∧ sumA a (xs.take k) ≤ k * 1000000000000
  | 0, _, _ => by simp [sumA]
  | k + 1, hk, h => by
    have ih := sumA_bound a xs k (by omega) (fun j hj => h j (by omega))
    have hb := (legFault_zero (h k (by omega)).1).2.2.2.1
    rw [sumA_snoc a xs k (by omega)]
    split <;> omega
theorem hasPlace_snoc (xs : List Leg) (k : Nat) (h : k < xs.length) (l : Leg) : hasPlace (xs.take (k + 1)) l = (hasPlace (xs.take k) l || samePlace (xs.getD k default) l) := by
  rw [take_snoc xs k h]; simp [hasPlace]
theorem hasPlace_mono {xs : List Leg} {k m : Nat} {l : Leg} (hkm : k ≤ m) (h : hasPlace (xs.take k) l = true) : hasPlace (xs.take m) l = true := by
  simp only [hasPlace, List.any_eq_true] at h ⊢
  obtain ⟨o, ho, hs⟩ := h
  exact ⟨o, (List.take_subset_take_left xs hkm) ho, hs⟩
theorem cf_val {id : Int} {xs : List Leg} (hid : inB id 1 1000000000 = true) (h2 : 2 ≤ xs.length) (h8 : xs.length ≤ 8) : contractFault id xs = if scan [] xs = 0 then (if sumA 0 xs = 0 ∧ sumA 1 xs = 0 ∧ sumA 2 xs = 0 then 0 else 1) else scan [] xs := by
  rw [contractFault, if_pos hid, if_neg (by omega)]
theorem cf_bad {id : Int} {xs : List Leg} (hid : inB id 1 1000000000 = true) (h2 : 2 ≤ xs.length) (h8 : xs.length ≤ 8) {k : Nat} (hk : k < xs.length) (h : okTo xs k) (hb : ¬ legFault (xs.getD k default) = 0) : contractFault id xs = legFault (xs.getD k default) := by
  rw [cf_val hid h2 h8, scan_bad hk h hb, if_neg hb]
theorem cf_taken {id : Int} {xs : List Leg} (hid : inB id 1 1000000000 = true) (h2 : 2 ≤ xs.length) (h8 : xs.length ≤ 8) {k : Nat} (hk : k < xs.length) (h : okTo xs k) (h0 : legFault (xs.getD k default) = 0) (hb : hasPlace (xs.take k) (xs.getD k default) = true) : contractFault id xs = 7 := by
  rw [cf_val hid h2 h8, scan_taken hk h h0 hb, if_neg (by decide)]
theorem cf_sum {id : Int} {xs : List Leg} (hid : inB id 1 1000000000 = true) (h2 : 2 ≤ xs.length) (h8 : xs.length ≤ 8) (h : okTo xs xs.length) (hs : ¬ (sumA 0 xs = 0 ∧ sumA 1 xs = 0 ∧ sumA 2 xs = 0)) : contractFault id xs = 1 := by
  rw [cf_val hid h2 h8, scan_ok h, if_pos rfl, if_neg hs]
theorem cf_zero {id : Int} {xs : List Leg} (hid : inB id 1 1000000000 = true) (h2 : 2 ≤ xs.length) (h8 : xs.length ≤ 8) (h : okTo xs xs.length) (hs : sumA 0 xs = 0 ∧ sumA 1 xs = 0 ∧ sumA 2 xs = 0) : contractFault id xs = 0 := by
  rw [cf_val hid h2 h8, scan_ok h, if_pos rfl, if_pos hs]
end Go.Proofs.YtecfelacdapdgaaGreat

/-
  The specification's ContractFault answers as the plain mathematics says.
-/
namespace Go.Proofs.YtecfelacdapdgaaGreat
open Go.RowKit
set_option linter.unusedSectionVars false
variable [DecidableEq Leg] [Inhabited Leg]
attribute [local go_sem ↓] Go.wp_at_zero Go.wp_at_succ

theorem make3 (w : World) : (Instr.makeSlice 108 (.int .i64 3) (.int .i64 3)).run Tryz.prog w = .ok (.slice (some ⟨w.heap.size, 0, none⟩) 3 3) (w.alloc (.cells #[.int .i64 0, .int .i64 0, .int .i64 0] 2)) := by kernel_rfl
set_option maxHeartbeats 1000000 in
theorem specFault_early (id : Int) (x : Value) (xs : List Leg) (w : World) (hx : LegsV w x xs) (h : inB id 1 1000000000 = false ∨ xs.length < 2 ∨ 8 < xs.length) :
    Calls Tryz.prog 36 #[.agg #[.int .i64 id, x]] w fun e w' => e = .returned (.int .i64 (contractFault id xs)) ∧ Below w.heap.size w w' := by
  obtain ⟨ax, cx, rfl, hcx, hmx, hx⟩ := hx
  unfold maxLen at hmx
  clear hx
  by_cases hid : inB id 1 1000000000 = false
  · go_enter Tryz.func36, Tryz.ntmps36
    go_wp2_with (go_at_call 37; refine (l1Id_any _ _).mono ?_; rintro e w' ⟨rfl, rfl⟩)
    go_ret
    exact ⟨by simp [contractFault, hid], balloc (Below.refl _ _) _⟩
  · have hid' : inB id 1 1000000000 = true := by simpa using hid
    have hn : xs.length < 2 ∨ 8 < xs.length := by
      rcases h with h | h
      · exact absurd h hid
      · exact h
    have hcf : contractFault id xs = 2 := by simp [contractFault, hid', hn]
    rw [hcf]
    generalize xs.length = n at *
    clear hid h hcf
    rcases hn with hn | hn
    · have h1 : (n : Int) < 2 := by omega
      go_enter Tryz.func36, Tryz.ntmps36
      go_wp2_with (go_at_call 37; refine (l1Id_any _ _).mono ?_; rintro e w' ⟨rfl, rfl⟩)
      go_ret
      exact ⟨rfl, balloc (Below.refl _ _) _⟩
    · have h1 : ¬ (n : Int) < 2 := by omega
      have h2 : (8 : Int) < (n : Int) := by omega
      go_enter Tryz.func36, Tryz.ntmps36
      go_wp2_with (go_at_call 37; refine (l1Id_any _ _).mono ?_; rintro e w' ⟨rfl, rfl⟩)
      go_ret
      exact ⟨rfl, balloc (Below.refl _ _) _⟩
set_option maxHeartbeats 2000000 in
theorem specFault_late (id : Int) (x : Value) (xs : List Leg) (w : World) (hx : LegsV w x xs) (hid : inB id 1 1000000000 = true) (hn2 : 2 ≤ xs.length) (hn8 : xs.length ≤ 8) :
    Calls Tryz.prog 36 #[.agg #[.int .i64 id, x]] w fun e w' => e = .returned (.int .i64 (contractFault id xs)) ∧ Below w.heap.size w w' := by
  obtain ⟨ax, cx, rfl, hcx, hmx, hx⟩ := hx
  unfold maxLen at hmx
  generalize hn' : xs.length = n at *
  have HN : Hid (xs.length = n) := hn'
  clear hn'
  have h1 : ¬ (n : Int) < 2 := by omega
  have h2 : ¬ (8 : Int) < (n : Int) := by omega
  have hmk := make3
  go_enter Tryz.func36, Tryz.ntmps36
  go_wp2_with (go_at_call 37; refine (l1Id_any _ _).mono ?_; rintro e w' ⟨rfl, rfl⟩)
  go_loopw [4] (fun i w' => ∃ k : Nat, k ≤ n ∧ i = .int .i64 k ∧ okTo xs k ∧ (∀ j : Nat, j < 3 → w'.cell? ⟨w.heap.size + 1, j, none⟩ = some (.int .i64 (sumA j (xs.take k))) ∧ w'.frozen? ⟨w.heap.size + 1, j, none⟩ = false) ∧
      w'.cell? ⟨w.heap.size, 1, none⟩ = some (.slice ax n cx) ∧ w.heap.size + 1 < w'.heap.size ∧ Below w.heap.size w w') (fun i _ => n - (intOf i).toNat)
  case atStart =>
    refine ⟨0, Nat.zero_le _, rfl, fun j h => by omega, fun j hj => ?_, by simp [go_sem], by simp, balloc (balloc (Below.refl _ _) _) _⟩
    match j, hj with
    | 0, _ => exact ⟨by simp [go_sem, sumA], by simp [go_sem]⟩
    | 1, _ => exact ⟨by simp [go_sem, sumA], by simp [go_sem]⟩
    | 2, _ => exact ⟨by simp [go_sem, sumA], by simp [go_sem]⟩
  case round =>
    obtain ⟨k, hk, rfl, hok, hs, hcx1, hsz, hbl⟩ := hrel
    generalize wr = wo at *
    have HO : Hid (okTo xs k) := hok
    have HS : Hid (∀ j : Nat, j < 3 → wo.cell? ⟨w.heap.size + 1, j, none⟩ = some (.int .i64 (sumA j (xs.take k))) ∧ wo.frozen? ⟨w.heap.size + 1, j, none⟩ = false) := hs
    clear hok hs
    by_cases hlt : k < n
    · obtain ⟨bx, ox, rfl, g1⟩ := hx k hlt
      obtain ⟨l, hl⟩ : ∃ l, l = xs.getD k default := ⟨_, rfl⟩
      rw [← hl] at g1
      have HL : Hid (l = xs.getD k default) := hl
      clear hl
      obtain ⟨a1, a2, a3, a4⟩ := legCells_below hbl g1
      go_wp2_with fail
      refine (specLegFault_any l _).mono ?_
      rintro e w2 ⟨rfl, hb2⟩
      obtain ⟨hc2, hf2⟩ := bcell hb2
      have hbl2 : Below w.heap.size w w2 := bstep (balloc hbl _) hb2
      have hz2 : wo.heap.size < w2.heap.size := by have := hb2.size; simp at this; omega
      have hcx2 : w2.cell? ⟨w.heap.size, 1, none⟩ = some (.slice (some ⟨bx, ox, none⟩) n cx) := by
        rw [hc2 _ _ (by simp; omega)]; simp [go_sem, hcx1, show w.heap.size < wo.heap.size by omega]
      have hl2 : legCells w2 wo.heap.size 0 l := by
        refine ⟨?_, ?_, ?_, ?_⟩ <;> (rw [hc2 _ _ (by simp)]; simp [go_sem])
      have HS2 : Hid (∀ j : Nat, j < 3 → w2.cell? ⟨w.heap.size + 1, j, none⟩ = some (.int .i64 (sumA j (xs.take k))) ∧ w2.frozen? ⟨w.heap.size + 1, j, none⟩ = false) := by
        intro j hj
        have := HS.out j hj
        rw [hc2 _ _ (by simp; omega), hf2 _ _ (by simp; omega)]
        simpa [go_sem, hsz] using this
      clear hc2 hf2 hb2 a1 a2 a3 a4 hcx1 HS hbl
      by_cases hlf : legFault l = 0
      · have HF : Hid (legFault l = 0) := hlf
        rw [hlf]
        clear hlf
        go_wp2
        go_loopw [7] (fun i w' => ∃ m : Nat, m ≤ k ∧ i = .int .i64 m ∧ hasPlace (xs.take m) l = false ∧ Below w2.heap.size w2 w') (fun i _ => k - (intOf i).toNat)
        case atStart => exact ⟨0, Nat.zero_le _, rfl, by simp [hasPlace], Below.refl _ _⟩
        case round =>
          obtain ⟨m, hm, rfl, hp, hb3⟩ := hrel
          have HP : Hid (hasPlace (xs.take m) l = false) := hp
          clear hp
          by_cases hmk' : m < k
          · obtain ⟨b', o', he, g2⟩ := hx m (by omega)
            simp only [Option.some.injEq, Addr.mk.injEq, and_true] at he
            obtain ⟨rfl, rfl⟩ := he
            obtain ⟨o, ho⟩ : ∃ o, o = xs.getD m default := ⟨_, rfl⟩
            rw [← ho] at g2
            have HO2 : Hid (o = xs.getD m default) := ho
            clear ho
            obtain ⟨c1, c2, c3, c4⟩ := legCells_below (bstep hbl2 hb3) g2
            obtain ⟨d1, d2, d3, d4⟩ := legCells_below hb3 hl2
            simp only [Nat.zero_add] at d1 d2 d3 d4
            have e1 : wr.cell? ⟨w.heap.size, 1, none⟩ = some (.slice (some ⟨bx, ox, none⟩) n cx) := by
              rw [(bcell hb3).1 _ _ (by omega)]; exact hcx2
            have hz3 : wo.heap.size < wr.heap.size := by have := hb3.size; omega
            have hz4 : w.heap.size < wr.heap.size := by omega
            have hz5 : bx < wr.heap.size := World.block_lt_of_cell? wr _ c1
            go_wp2
            · rename_i s1 s2 s3
              go_ret
              refine ⟨?_, balloc (bstep hbl2 hb3) _⟩
              have hp : hasPlace (xs.take k) (xs.getD k default) = true := by
                refine hasPlace_mono (k := m + 1) (by omega) ?_
                rw [hasPlace_snoc xs m (by have := HN.out; omega), ← HL.out, ← HO2.out]
                have : l.ast = o.ast := by simpa using (Eq.symm (by simpa using s3 : o.ast = l.ast))
                simp [samePlace, s1, s2, this]
              have := HN.out
              rw [cf_taken hid (by omega) (by omega) (k := k) (by omega) HO.out (by rw [← HL.out]; exact HF.out) hp]
              rfl
            all_goals
              refine ⟨⟨m + 1, by omega, by go_num, ?_, balloc hb3 _⟩, by simp [intOf]; omega⟩
              rw [hasPlace_snoc xs m (by have := HN.out; omega), ← HO2.out, HP.out]
              simp_all [samePlace]
          · have hmk2 : m = k := by omega
            subst hmk2
            obtain ⟨d1, d2, d3, d4⟩ := legCells_below hb3 hl2
            simp only [Nat.zero_add] at d1 d2 d3 d4
            have hz3 : wo.heap.size < wr.heap.size := by have := hb3.size; omega
            have hz4 : w.heap.size < wr.heap.size := by omega
            have lz := legFault_zero HF.out
            obtain ⟨_, _, ⟨q1, q2⟩, ⟨q3, q4⟩, _⟩ := lz
            have q2' : l.ast < 3 := by omega
            have HS3 : Hid (∀ j : Nat, j < 3 → wr.cell? ⟨w.heap.size + 1, j, none⟩ = some (.int .i64 (sumA j (xs.take m))) ∧ wr.frozen? ⟨w.heap.size + 1, j, none⟩ = false) := by
              intro j hj
              rw [(bcell hb3).1 _ _ (by omega), (bcell hb3).2 _ _ (by omega)]
              exact HS2.out j hj
            have f1 := HS3.out l.ast.toNat (by omega)
            obtain ⟨f1, f2⟩ := f1
            rw [show ((l.ast.toNat : Nat) : Int) = l.ast by omega] at f1
            obtain ⟨s, hs⟩ : ∃ s, s = sumA l.ast (xs.take m) := ⟨_, rfl⟩
            have sb := sumA_bound l.ast xs m (by have := HN.out; omega) HO.out
            rw [← hs] at f1 sb
            have HSS : Hid (s = sumA l.ast (xs.take m)) := hs
            clear hs
            obtain ⟨sb1, sb2⟩ := sb
            have sb3 : -8000000000000 ≤ s := by omega
            have sb4 : s ≤ 8000000000000 := by omega
            clear sb1 sb2
            go_wp2
            go_region
            go_wp2
            have hmn : m < xs.length := by have := HN.out; omega
            refine ⟨⟨m + 1, by omega, by go_num, okTo_succ HO.out (by rw [← HL.out]; exact HF.out) (by rw [← HL.out]; exact HP.out), ?_, ?_, by simp; omega, ?_⟩, by simp [intOf]; omega⟩
            · intro j hj
              have old := HS3.out j hj
              show (wr.setCell _ _).cell? _ = _ ∧ (wr.setCell _ _).frozen? _ = _
              rw [World.frozen?_setCell]
              refine ⟨?_, old.2⟩
              rw [sumA_snoc (j : Int) xs m hmn, ← HL.out]
              by_cases hje : l.ast.toNat = j
              · subst hje
                rw [set_same f1, HSS.out, show ((l.ast.toNat : Nat) : Int) = l.ast by omega, if_pos rfl]
              · rw [set_other (by simp), old.1, if_neg (by omega), Int.add_zero]
            · show (wr.setCell _ _).cell? _ = _
              rw [set_other (by simp)]
              rw [(bcell hb3).1 _ _ (by omega)]; exact hcx2
            · exact (bset (bstep hbl2 hb3) (by simp) _).drew
      · have hd : (legFault l == 0) = false := by simpa using hlf
        go_wp2
        go_ret
        refine ⟨?_, hbl2⟩
        have := HN.out
        rw [cf_bad hid (by omega) (by omega) (k := k) (by omega) HO.out (by rw [← HL.out]; exact hlf), ← HL.out]
        rfl
    · have hkn : k = n := by omega
      subst hkn
      have t0 : xs.take k = xs := by rw [← HN.out]; exact List.take_length
      rw [t0] at HS
      have HO' : Hid (okTo xs xs.length) := by rw [HN.out]; exact HO.out
      clear HO
      go_wp2
      go_loopw [9] (fun i w' => ∃ m : Nat, m ≤ 3 ∧ i = .int .i64 m ∧ (∀ j : Nat, j < m → sumA j xs = 0) ∧ w' = wo) (fun i _ => 3 - (intOf i).toNat)
      case atStart => exact ⟨0, by omega, rfl, fun j h => by omega, rfl⟩
      case round =>
        obtain ⟨m, hm, rfl, hp, rfl⟩ := hrel
        have HP : Hid (∀ j : Nat, j < m → sumA j xs = 0) := hp
        clear hp
        by_cases hm3 : m < 3
        · obtain ⟨f1, _⟩ := HS.out m hm3
          obtain ⟨s, hs⟩ : ∃ s, s = sumA m xs := ⟨_, rfl⟩
          rw [← hs] at f1
          have HSS : Hid (s = sumA m xs) := hs
          clear hs
          by_cases hs0 : s = 0
          · subst hs0
            go_wp2
            refine ⟨⟨m + 1, by omega, by go_num, fun j hj => ?_, trivial⟩, by simp [intOf]; omega⟩
            by_cases hjm : j < m
            · exact HP.out j hjm
            · have : j = m := by omega
              subst this
              exact HSS.out.symm
          · have hd : (s == 0) = false := by simpa using hs0
            go_wp2
            go_ret
            have := HN.out
            rw [cf_sum hid (by omega) (by omega) HO'.out]
            · exact ⟨rfl, hbl⟩
            · intro ⟨z0, z1, z2⟩
              apply hs0
              rw [HSS.out]
              match m, hm3 with
              | 0, _ => exact z0
              | 1, _ => exact z1
              | 2, _ => exact z2
        · have hm3' : m = 3 := by omega
          subst hm3'
          go_wp2
          go_ret
          have := HN.out
          rw [cf_zero hid (by omega) (by omega) HO'.out ⟨HP.out 0 (by omega), HP.out 1 (by omega), HP.out 2 (by omega)⟩]
          exact ⟨rfl, hbl⟩
theorem specFault_any (id : Int) (x : Value) (xs : List Leg) (w : World) (hx : LegsV w x xs) :
    Calls Tryz.prog 36 #[.agg #[.int .i64 id, x]] w fun e w' => e = .returned (.int .i64 (contractFault id xs)) ∧ Below w.heap.size w w' := by
  by_cases h : inB id 1 1000000000 = false ∨ xs.length < 2 ∨ 8 < xs.length
  · exact specFault_early id x xs w hx h
  · have h1 : inB id 1 1000000000 = true := by
      cases hb : inB id 1 1000000000 with
      | true => rfl
      | false => exact absurd (Or.inl hb) h
    exact specFault_late id x xs w hx h1 (by omega) (by omega)
end Go.Proofs.YtecfelacdapdgaaGreat

/-
  The program's ContractFault answers as the plain mathematics says.
-/
namespace Go.Proofs.YtecfelacdapdgaaGreat
open Go.RowKit
set_option linter.unusedSectionVars false
variable [DecidableEq Leg] [Inhabited Leg]
attribute [local go_sem ↓] Go.wp_at_zero Go.wp_at_succ

theorem eqGuardLeg : Tryz.prog.eqGuardType Tryz.prog.depth 110 = false := by kernel_rfl
theorem eqlPlace (o l : Leg) (w : World) : (binOp .eql 110 (.agg #[.int .i64 o.sh, .int .i64 o.ac, .int .i64 o.ast, .int .i64 0]) (.agg #[.int .i64 l.sh, .int .i64 l.ac, .int .i64 l.ast, .int .i64 0])).run Tryz.prog w = .ok (.bool (samePlace o l)) w := by
  rw [run_eql_struct, run_equalIn_struct w 9999 110 _ _ (by kernel_rfl) (by kernel_rfl)]
  have hf : (Tryz.prog.fieldsOf 110).toList = [{ name := "Shard", type := 2, offset := 0, embedded := false, tag := "", pkgPath := "", byteOffset := 0 }, { name := "Account", type := 2, offset := 1, embedded := false, tag := "", pkgPath := "", byteOffset := 8 }, { name := "Asset", type := 2, offset := 2, embedded := false, tag := "", pkgPath := "", byteOffset := 16 }, { name := "Amount", type := 2, offset := 3, embedded := false, tag := "", pkgPath := "", byteOffset := 24 }] := by kernel_rfl
  rw [hf]
  simp [Op.eqFields, go_sem, samePlace]
  by_cases e1 : o.sh = l.sh <;> by_cases e2 : o.ac = l.ac <;> by_cases e3 : o.ast = l.ast <;> simp [e1, e2, e3]
set_option maxHeartbeats 1000000 in
theorem hasPlaceOf_any (x : Value) (xs : List Leg) (l : Leg) (w : World) (hx : LegsV w x xs) :
    Calls Tryz.prog 107 #[x, legV l] w fun e w' => e = .returned (.bool (hasPlace xs l)) ∧ Below w.heap.size w w' := by
  obtain ⟨ax, cx, rfl, hcx, hmx, hx⟩ := hx
  unfold maxLen at hmx
  generalize hn' : xs.length = n at *
  have HN : Hid (xs.length = n) := hn'
  clear hn'
  unfold legV
  go_enter Tryz.func107, Tryz.ntmps107
  go_wp2
  go_loopw [9] (fun i w' => ∃ k : Nat, k ≤ n ∧ i = .int .i64 k ∧ hasPlace (xs.take k) l = false ∧ legCells w' w.heap.size 0 l ∧ w.heap.size < w'.heap.size ∧ Below w.heap.size w w') (fun i _ => n - (intOf i).toNat)
  case atStart => exact ⟨0, Nat.zero_le _, rfl, by simp [hasPlace], ⟨by simp [go_sem], by simp [go_sem], by simp [go_sem], by simp [go_sem]⟩, by simp, balloc (Below.refl _ _) _⟩
  case round =>
    obtain ⟨k, hk, rfl, hp, hl, hz, hbl⟩ := hrel
    have HP : Hid (hasPlace (xs.take k) l = false) := hp
    clear hp
    by_cases hlt : k < n
    · obtain ⟨bx, ox, rfl, g1⟩ := hx k hlt
      obtain ⟨o, ho⟩ : ∃ o, o = xs.getD k default := ⟨_, rfl⟩
      rw [← ho] at g1
      have HO : Hid (o = xs.getD k default) := ho
      clear ho hx
      obtain ⟨a1, a2, a3, a4⟩ := legCells_below hbl g1
      have h1 : legCells (wr.alloc (.cells #[.int .i64 o.sh, .int .i64 o.ac, .int .i64 o.ast, .int .i64 o.am] 110)) wr.heap.size 0 o := ⟨by simp [go_sem], by simp [go_sem], by simp [go_sem], by simp [go_sem]⟩
      have h2 := legCells_below (balloc (Below.refl _ wr) (.cells #[.int .i64 o.sh, .int .i64 o.ac, .int .i64 o.ast, .int .i64 o.am] 110)) hl
      go_wp2
      generalize hW : wr.alloc (.cells #[.int .i64 o.sh, .int .i64 o.ac, .int .i64 o.ast, .int .i64 o.am] 110) = W at *
      have HW : Hid (wr.alloc (.cells #[.int .i64 o.sh, .int .i64 o.ac, .int .i64 o.ast, .int .i64 o.am] 110) = W) := hW
      clear hW
      have heq := eqlPlace o l
      have hgd := eqGuardLeg
      go_region_held3 (fun w' => Below W.heap.size W w' ∧ (w'.cell? ⟨wr.heap.size, 0, none⟩ = some (.int .i64 o.sh) ∧ w'.cell? ⟨wr.heap.size, 1, none⟩ = some (.int .i64 o.ac) ∧ w'.cell? ⟨wr.heap.size, 2, none⟩ = some (.int .i64 o.ast) ∧ w'.cell? ⟨wr.heap.size, 3, none⟩ = some (.int .i64 o.am)) ∧ (w'.cell? ⟨w.heap.size, 0, none⟩ = some (.int .i64 l.sh) ∧ w'.cell? ⟨w.heap.size, 1, none⟩ = some (.int .i64 l.ac) ∧ w'.cell? ⟨w.heap.size, 2, none⟩ = some (.int .i64 l.ast) ∧ w'.cell? ⟨w.heap.size, 3, none⟩ = some (.int .i64 l.am))) ((refine keep2 ?_ h1 h2; repeat (first | exact Below.refl _ _ | assumption | refine Below.drew ?_ | refine balloc ?_ _ | refine bstep ?_ (by assumption)))) (first | (go_at_call_of 125 (o.sh); refine (placeOf_any o _).mono ?_; rintro e w' ⟨rfl, hb1⟩; simp only [legV]) | (go_at_call_of 125 (l.sh); refine (placeOf_any l _).mono ?_; rintro e w' ⟨rfl, hb2⟩; simp only [legV]))
      all_goals
        rename_i hH
        have hB := hH.1
        clear hH heq hgd
        have hBw : Below w.heap.size w w' := by
          have e := HW.out
          subst e
          exact bstep (balloc hbl _) hB
        go_wp2
        · rename_i hs
          go_ret
          refine ⟨?_, hBw⟩
          have : hasPlace xs l = true := by
            have h := hasPlace_mono (xs := xs) (k := k + 1) (m := xs.length) (l := l) (by have := HN.out; omega) (by rw [hasPlace_snoc xs k (by have := HN.out; omega), ← HO.out, hs]; simp)
            rwa [List.take_length] at h
          rw [this]
          rfl
        · rename_i hs
          refine ⟨⟨k + 1, by omega, by go_num, ?_, legCells_below hB h2, by have := World.block_lt_of_cell? _ _ (legCells_below hB h2).1; simpa using this, hBw⟩, by simp [intOf]; omega⟩
          rw [hasPlace_snoc xs k (by have := HN.out; omega), ← HO.out, HP.out]
          simpa using hs
    · go_wp2
      go_ret
      have hkn : k = n := by omega
      subst hkn
      have t0 : xs.take k = xs := by rw [← HN.out]; exact List.take_length
      have := HP.out
      rw [t0] at this
      exact ⟨by rw [this]; rfl, hbl⟩
def givenA (a : Int) : List Leg → Int
  | [] => 0
  | l :: r => (if l.ast = a ∧ 0 < l.am then l.am else 0) + givenA a r
def takenA (a : Int) : List Leg → Int
  | [] => 0
  | l :: r => (if l.ast = a ∧ ¬ 0 < l.am then l.am else 0) + takenA a r
theorem given_taken (a : Int) (xs : List Leg) : givenA a xs + takenA a xs = sumA a xs := by
  induction xs with
  | nil => simp [givenA, takenA, sumA]
  | cons l r ih =>
    simp only [givenA, takenA, sumA]
    by_cases h1 : l.ast = a <;> by_cases h2 : 0 < l.am <;> simp [h1, h2] <;> omega
theorem givenA_append (a : Int) (l r : List Leg) : givenA a (l ++ r) = givenA a l + givenA a r := by
  induction l with
  | nil => simp [givenA]
  | cons x l ih => simp only [List.cons_append, givenA, ih]; omega
theorem takenA_append (a : Int) (l r : List Leg) : takenA a (l ++ r) = takenA a l + takenA a r := by
  induction l with
  | nil => simp [takenA]
  | cons x l ih => simp only [List.cons_append, takenA, ih]; omega
theorem givenA_snoc (a : Int) (xs : List Leg) (k : Nat) (h : k < xs.length) : givenA a (xs.take (k + 1)) = givenA a (xs.take k) + if (xs.getD k default).ast = a ∧ 0 < (xs.getD k default).am then (xs.getD k default).am else 0 := by
  rw [take_snoc xs k h, givenA_append]; simp [givenA]
theorem takenA_snoc (a : Int) (xs : List Leg) (k : Nat) (h : k < xs.length) : takenA a (xs.take (k + 1)) = takenA a (xs.take k) + if (xs.getD k default).ast = a ∧ ¬ 0 < (xs.getD k default).am then (xs.getD k default).am else 0 := by
  rw [take_snoc xs k h, takenA_append]; simp [takenA]
def small (xs : List Leg) : Prop := ∀ j, j < xs.length → -1000000000000 ≤ (xs.getD j default).am ∧ (xs.getD j default).am ≤ 1000000000000
theorem small_of_ok {xs : List Leg} (h : okTo xs xs.length) : small xs := fun j hj => (legFault_zero (h j hj).1).2.2.2.1
theorem givenA_bound (a : Int) (xs : List Leg) (hs : small xs) : ∀ k, k ≤ xs.length → 0 ≤ givenA a (xs.take k) ∧ givenA a (xs.take k) ≤ k * 1000000000000
  | 0, _ => by simp [givenA]
  | k + 1, hk => by
    have ih := givenA_bound a xs hs k (by omega)
    have hb := hs k (by omega)
    rw [givenA_snoc a xs k (by omega)]
    split <;> omega
theorem takenA_bound (a : Int) (xs : List Leg) (hs : small xs) : ∀ k, k ≤ xs.length → -(k * 1000000000000 : Int) ≤ takenA a (xs.take k) ∧ takenA a (xs.take k) ≤ 0
  | 0, _ => by simp [takenA]
  | k + 1, hk => by
    have ih := takenA_bound a xs hs k (by omega)
    have hb := hs k (by omega)
    rw [takenA_snoc a xs k (by omega)]
    split <;> omega
set_option maxHeartbeats 1000000 in
theorem sumsOf_any (x : Value) (xs : List Leg) (asset : Int) (w : World) (hx : LegsV w x xs) (hn8 : xs.length ≤ 8) (hs : small xs) :
    Calls Tryz.prog 126 #[x, .int .i64 asset] w fun e w' => e = .returned (.agg #[.int .i64 (givenA asset xs), .int .i64 (takenA asset xs)]) ∧ Below w.heap.size w w' := by
  obtain ⟨ax, cx, rfl, hcx, hmx, hx⟩ := hx
  unfold maxLen at hmx
  have HS : Hid (small xs) := hs
  clear hs
  generalize hn' : xs.length = n at *
  have HN : Hid (xs.length = n) := hn'
  clear hn'
  go_enter Tryz.func126, Tryz.ntmps126
  go_wp2
  go_loopw [10] (fun i w' => ∃ k : Nat, k ≤ n ∧ i = .int .i64 k ∧ w'.cell? ⟨w.heap.size + 1, 0, none⟩ = some (.int .i64 (givenA asset (xs.take k))) ∧ w'.cell? ⟨w.heap.size + 1, 1, none⟩ = some (.int .i64 (takenA asset (xs.take k))) ∧
      (∀ o, w'.frozen? ⟨w.heap.size + 1, o, none⟩ = false) ∧ (∀ o, w'.frozen? ⟨w.heap.size, o, none⟩ = false) ∧ w'.cell? ⟨w.heap.size, 0, none⟩ = some (.int .i64 0) ∧ w'.cell? ⟨w.heap.size, 1, none⟩ = some (.int .i64 0) ∧ w.heap.size + 1 < w'.heap.size ∧ Below w.heap.size w w') (fun i _ => n - (intOf i).toNat)
  case atStart => exact ⟨0, Nat.zero_le _, rfl, by simp [go_sem, givenA], by simp [go_sem, takenA], by simp [go_sem], by simp [go_sem], by simp [go_sem], by simp [go_sem], by simp, balloc (balloc (Below.refl _ _) _) _⟩
  case round =>
    obtain ⟨k, hk, rfl, hg, ht, hf1, hf0, hr0, hr1, hz, hbl⟩ := hrel
    by_cases hlt : k < n
    · obtain ⟨bx, ox, rfl, g1⟩ := hx k hlt
      obtain ⟨l, hl⟩ : ∃ l, l = xs.getD k default := ⟨_, rfl⟩
      rw [← hl] at g1
      have HL : Hid (l = xs.getD k default) := hl
      clear hl hx
      obtain ⟨a1, a2, a3, a4⟩ := legCells_below hbl g1
      have gb := givenA_bound asset xs HS.out k (by have := HN.out; omega)
      have tb := takenA_bound asset xs HS.out k (by have := HN.out; omega)
      have sb := HS.out k (by have := HN.out; omega)
      rw [← HL.out] at sb
      obtain ⟨g, hge⟩ : ∃ g, g = givenA asset (xs.take k) := ⟨_, rfl⟩
      obtain ⟨t, hte⟩ : ∃ t, t = takenA asset (xs.take k) := ⟨_, rfl⟩
      rw [← hge] at hg gb
      rw [← hte] at ht tb
      have HG : Hid (g = givenA asset (xs.take k)) := hge
      have HT : Hid (t = takenA asset (xs.take k)) := hte
      clear hge hte
      obtain ⟨sb1, sb2⟩ := sb
      have gb1 : 0 ≤ g := gb.1
      have gb2 : g ≤ 8000000000000 := by omega
      have tb1 : -8000000000000 ≤ t := by omega
      have tb2 : t ≤ 0 := tb.2
      clear gb tb
      have hkx : k < xs.length := by have := HN.out; omega
      have eg : givenA asset (xs.take (k + 1)) = g + if l.ast = asset ∧ 0 < l.am then l.am else 0 := by rw [givenA_snoc asset xs k hkx, ← HL.out, HG.out]
      have et : takenA asset (xs.take (k + 1)) = t + if l.ast = asset ∧ ¬ 0 < l.am then l.am else 0 := by rw [takenA_snoc asset xs k hkx, ← HL.out, HT.out]
      have HEG : Hid (givenA asset (xs.take (k + 1)) = g + if l.ast = asset ∧ 0 < l.am then l.am else 0) := eg
      have HET : Hid (takenA asset (xs.take (k + 1)) = t + if l.ast = asset ∧ ¬ 0 < l.am then l.am else 0) := et
      clear eg et
      have hz0 : w.heap.size < wr.heap.size := by omega
      go_wp2
      · rename_i h1
        have h1' : ¬ l.ast = asset := by simpa using h1
        have e1 := HEG.out
        have e2 := HET.out
        rw [if_neg (fun h => h1' h.1), Int.add_zero] at e1 e2
        refine ⟨⟨k + 1, by omega, by go_num, ?_, ?_, ?_, ?_, ?_, ?_, ?_, balloc hbl _⟩, by simp [intOf]; omega⟩
        · rw [e1]; simp [go_sem, hz, hg]
        · rw [e2]; simp [go_sem, hz, ht]
        · simp [go_sem, hz, hf1]
        · simp [go_sem, hz0, hf0]
        · simp [go_sem, hz0, hr0]
        · simp [go_sem, hz0, hr1]
        · simp; omega
      · rename_i h1 h2
        have h1' : l.ast = asset := by simpa using h1
        have e1 := HEG.out
        have e2 := HET.out
        rw [if_pos ⟨h1', h2⟩] at e1
        rw [if_neg (fun h => h.2 h2), Int.add_zero] at e2
        refine ⟨⟨k + 1, by omega, by go_num, ?_, ?_, ?_, ?_, ?_, ?_, ?_, balloc (bset hbl (by simp) _) _⟩, by simp [intOf]; omega⟩
        · rw [e1, World.cell?_alloc_past _ _ _ (by simp; omega)]; exact set_same hg
        · rw [e2, World.cell?_alloc_past _ _ _ (by simp; omega), set_other (by simp)]; exact ht
        · simp [go_sem, hz, hf1]
        · simp [go_sem, hz0, hf0]
        · rw [World.cell?_alloc_past _ _ _ (by simp; omega), set_other (by simp)]; exact hr0
        · rw [World.cell?_alloc_past _ _ _ (by simp; omega), set_other (by simp)]; exact hr1
        · simp; omega
      · rename_i h1 h2
        have h1' : l.ast = asset := by simpa using h1
        have e1 := HEG.out
        have e2 := HET.out
        rw [if_neg (fun h => by omega), Int.add_zero] at e1
        rw [if_pos ⟨h1', by omega⟩] at e2
        refine ⟨⟨k + 1, by omega, by go_num, ?_, ?_, ?_, ?_, ?_, ?_, ?_, balloc (bset hbl (by simp) _) _⟩, by simp [intOf]; omega⟩
        · rw [e1, World.cell?_alloc_past _ _ _ (by simp; omega), set_other (by simp)]; exact hg
        · rw [e2, World.cell?_alloc_past _ _ _ (by simp; omega)]; exact set_same ht
        · simp [go_sem, hz, hf1]
        · simp [go_sem, hz0, hf0]
        · rw [World.cell?_alloc_past _ _ _ (by simp; omega), set_other (by simp)]; exact hr0
        · rw [World.cell?_alloc_past _ _ _ (by simp; omega), set_other (by simp)]; exact hr1
        · simp; omega
    · have hkn : k = n := by omega
      subst hkn
      have t0 : xs.take k = xs := by rw [← HN.out]; exact List.take_length
      rw [t0] at hg ht
      go_wp2
      refine bodyPost_ret (v := .agg #[.int .i64 (givenA asset xs), .int .i64 (takenA asset xs)]) ?_ rfl ⟨rfl, bset (bset hbl (by simp) _) (by simp) _⟩
      simp [results, Tryz.results126, go_sem, hr0, hr1]
def sumsF (xs : List Leg) : Int := if sumA 0 xs = 0 ∧ sumA 1 xs = 0 ∧ sumA 2 xs = 0 then 0 else 1
set_option maxHeartbeats 1000000 in
theorem sumsFault_any (x : Value) (xs : List Leg) (w : World) (hx : LegsV w x xs) (hn8 : xs.length ≤ 8) (hs : small xs) :
    Calls Tryz.prog 108 #[x] w fun e w' => e = .returned (.int .i64 (sumsF xs)) ∧ Below w.heap.size w w' := by
  have HS : Hid (small xs) := hs
  clear hs
  go_enter Tryz.func108, Tryz.ntmps108
  go_wp2
  go_loopw [3] (fun i w' => ∃ m : Nat, m ≤ 3 ∧ i = .int .i64 m ∧ (∀ j : Nat, j < m → sumA j xs = 0) ∧ Below w.heap.size w w') (fun i _ => 3 - (intOf i).toNat)
  case atStart => exact ⟨0, by omega, rfl, fun j h => by omega, Below.refl _ _⟩
  case round =>
    obtain ⟨m, hm, rfl, hp, hbl⟩ := hrel
    have HP : Hid (∀ j : Nat, j < m → sumA j xs = 0) := hp
    clear hp
    by_cases hm3 : m < 3
    · have hm3' : (m : Int) < 3 := by omega
      have gb := givenA_bound m xs HS.out xs.length (Nat.le_refl _)
      have tb := takenA_bound m xs HS.out xs.length (Nat.le_refl _)
      have gt := given_taken m xs
      rw [List.take_length] at gb tb
      go_wp2_with fail
      refine (sumsOf_any x xs m _ (LegsV_below hx hbl) hn8 HS.out).mono ?_
      rintro e w1 ⟨rfl, hb1⟩
      obtain ⟨g, hge⟩ : ∃ g, g = givenA m xs := ⟨_, rfl⟩
      obtain ⟨t, hte⟩ : ∃ t, t = takenA m xs := ⟨_, rfl⟩
      obtain ⟨s, hse⟩ : ∃ s, s = sumA m xs := ⟨_, rfl⟩
      rw [← hge, ← hte, ← hse] at gt
      rw [← hge] at gb
      rw [← hte] at tb
      rw [← hge, ← hte]
      have HSS : Hid (s = sumA m xs) := hse
      have HGT : Hid (g + t = s) := gt
      clear hge hte hse gt
      have gb1 : 0 ≤ g := gb.1
      have gb2 : g ≤ 8000000000000 := by omega
      have tb1 : -8000000000000 ≤ t := by omega
      have tb2 : t ≤ 0 := tb.2
      clear gb tb
      by_cases hs0 : g + t = 0
      · have hd : (g + t == 0) = true := by simpa using hs0
        have HD : Hid (g + t = 0) := hs0
        clear hs0
        go_wp2
        refine ⟨⟨m + 1, by omega, by go_num, fun j hj => ?_, balloc (bstep hbl hb1) _⟩, by simp [intOf]; omega⟩
        by_cases hjm : j < m
        · exact HP.out j hjm
        · have : j = m := by omega
          subst this
          rw [← HSS.out, ← HGT.out, HD.out]
      · have hd : (g + t == 0) = false := by simpa using hs0
        have HD : Hid (¬ g + t = 0) := hs0
        clear hs0
        go_wp2
        go_ret
        refine ⟨?_, balloc (bstep hbl hb1) _⟩
        rw [sumsF, if_neg]
        · rfl
        · intro ⟨z0, z1, z2⟩
          apply HD.out
          rw [HGT.out, HSS.out]
          match m, hm3 with
          | 0, _ => exact z0
          | 1, _ => exact z1
          | 2, _ => exact z2
    · have hm3' : m = 3 := by omega
      subst hm3'
      go_wp2
      go_ret
      rw [sumsF, if_pos ⟨HP.out 0 (by omega), HP.out 1 (by omega), HP.out 2 (by omega)⟩]
      exact ⟨rfl, hbl⟩
end Go.Proofs.YtecfelacdapdgaaGreat

