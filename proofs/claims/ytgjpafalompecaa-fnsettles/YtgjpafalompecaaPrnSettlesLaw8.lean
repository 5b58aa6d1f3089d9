import Derived.Test.YtgjpafalompecaaPrnSettlesLaw7
import Derived.Test.YtgjpafalompecaaPrnSettlesLaw4
import Derived.RegionTactic
import Derived.ChangeAlike
import Derived.BigRegion

/-
  Legs copied: the contract of the law's own copy of a slice of legs.
-/
namespace Go.Proofs.Ytgjpafalompecaa
open Go.RowKit
set_option linter.unusedSectionVars false
variable [DecidableEq Leg] [Inhabited Leg]
attribute [local go_sem ↓] Go.wp_at_zero Go.wp_at_succ

def legC (l : Leg) : List Value := [.int .i64 l.sh, .int .i64 l.ac, .int .i64 l.ast, .int .i64 l.am]
def legsC (xs : List Leg) : List Value := xs.flatMap legC
theorem infoLeg : (Try.prog.info? 40).map (fun i => (i.zero, i.size, i.bytes)) = some (some (.agg #[.int .i64 0, .int .i64 0, .int .i64 0, .int .i64 0]), 4, 32) := by kernel_rfl
theorem length_legsC (xs : List Leg) : (legsC xs).length = xs.length * 4 := by
  induction xs with
  | nil => rfl
  | cons x r ih =>
    have e : legsC (x :: r) = legC x ++ legsC r := by simp [legsC]
    have l4 : (legC x).length = 4 := rfl
    rw [e, List.length_append, l4, ih, List.length_cons]
    omega
theorem getLegsC (xs : List Leg) : ∀ i, i < xs.length → (legsC xs)[i * 4]? = some (.int .i64 (xs.getD i default).sh) ∧ (legsC xs)[i * 4 + 1]? = some (.int .i64 (xs.getD i default).ac) ∧
    (legsC xs)[i * 4 + 2]? = some (.int .i64 (xs.getD i default).ast) ∧ (legsC xs)[i * 4 + 3]? = some (.int .i64 (xs.getD i default).am) := by
  induction xs with
  | nil => intro i h; simp at h
  | cons x r ih =>
    intro i h
    cases i with
    | zero => simp [legsC, legC]
    | succ i =>
      have := ih i (by simpa using h)
      have e : legsC (x :: r) = legC x ++ legsC r := by simp [legsC]
      have l4 : (legC x).length = 4 := rfl
      rw [e]
      refine ⟨?_, ?_, ?_, ?_⟩
      all_goals rw [List.getElem?_append_right (by omega), l4]
      · rw [show (i + 1) * 4 - 4 = i * 4 by omega]; simpa using this.1
      · rw [show (i + 1) * 4 + 1 - 4 = i * 4 + 1 by omega]; simpa using this.2.1
      · rw [show (i + 1) * 4 + 2 - 4 = i * 4 + 2 by omega]; simpa using this.2.2.1
      · rw [show (i + 1) * 4 + 3 - 4 = i * 4 + 3 by omega]; simpa using this.2.2.2
theorem LegsV_of_owns {w : World} {base e : Nat} {v : Value} {xs : List Leg} (h : w.ownsRow base e 4 v xs.length (legsC xs)) : LegsV w v xs := by
  rcases h.2 with ⟨rfl, hn⟩ | ⟨g, cap, cur, rfl, hb, hg, hnc, hcm, hcs, htake⟩
  · exact ⟨none, 0, by rw [hn], by omega, by unfold maxLen; omega, fun i hi => by omega⟩
  · refine ⟨some ⟨g, 0, none⟩, cap, rfl, hnc, hcm, fun i hi => ⟨g, 0, rfl, ?_⟩⟩
    obtain ⟨h0, h1, h2, h3⟩ := getLegsC xs i hi
    simp only [Nat.zero_add, legCells]
    exact ⟨(h.cellAt _ (by omega)).trans h0, (h.cellAt _ (by omega)).trans h1, (h.cellAt _ (by omega)).trans h2, (h.cellAt _ (by omega)).trans h3⟩
def upto (k : Nat) (cs : List Value) (xs : List Leg) : Prop := ∀ j, j < k * 4 → cs[j]? = (legsC xs)[j]?
theorem upto_full {n : Nat} {cs : List Value} {xs : List Leg} (h : upto n cs xs) (hl : cs.length = n * 4) (hn : xs.length = n) : cs = legsC xs := by
  apply List.ext_getElem?
  intro j
  by_cases hj : j < n * 4
  · exact h j hj
  · rw [List.getElem?_eq_none (by omega), List.getElem?_eq_none (by rw [length_legsC]; omega)]
theorem upto_set {k : Nat} {cs : List Value} {xs : List Leg} {l : Leg} (h : upto k cs xs) (hk : k < xs.length) (hl : cs.length = xs.length * 4) (he : l = xs.getD k default) :
    upto (k + 1) ((((cs.set (k * 4) (.int .i64 l.sh)).set (k * 4 + 1) (.int .i64 l.ac)).set (k * 4 + 2) (.int .i64 l.ast)).set (k * 4 + 3) (.int .i64 l.am)) xs := by
  intro j hj
  obtain ⟨h0, h1, h2, h3⟩ := getLegsC xs k hk
  subst he
  simp only [List.getElem?_set, List.length_set]
  by_cases e3 : k * 4 + 3 = j
  · subst e3; simp [h3]; omega
  by_cases e2 : k * 4 + 2 = j
  · subst e2; simp [h2]; omega
  by_cases e1 : k * 4 + 1 = j
  · subst e1; simp [h1]; omega
  by_cases e0 : k * 4 = j
  · subst e0; simp [h0]; omega
  simp [e0, e1, e2, e3]
  exact h j (by omega)
end Go.Proofs.Ytgjpafalompecaa

/-
  Contracts as values: the law's own copy, comparison and count of a contract.
-/
namespace Go.Proofs.Ytgjpafalompecaa
open Go.RowKit
set_option linter.unusedSectionVars false
variable [DecidableEq Leg] [Inhabited Leg]
attribute [local go_sem ↓] Go.wp_at_zero Go.wp_at_succ

theorem LegsV_below {w w' : World} {v : Value} {xs : List Leg} (h : LegsV w v xs) (hb : Below w.heap.size w w') : LegsV w' v xs := by
  obtain ⟨a, cap, rfl, h1, h2, h3⟩ := h
  exact ⟨a, cap, rfl, h1, h2, fun i hi => by
    obtain ⟨b, o, ha, hc⟩ := h3 i hi
    exact ⟨b, o, ha, legCells_below hb hc⟩⟩
end Go.Proofs.Ytgjpafalompecaa

/-
  What is asked of a contract, as plain mathematics: the first leg that is wrong, and the sums of the assets.
-/
namespace Go.Proofs.Ytgjpafalompecaa
open Go.RowKit
set_option linter.unusedSectionVars false
variable [DecidableEq Leg] [Inhabited Leg]

def samePlace (a b : Leg) : Bool := a.sh == b.sh && (a.ac == b.ac && a.ast == b.ast)
def hasPlace (pre : List Leg) (l : Leg) : Bool := pre.any (fun o => samePlace o l)
def scan (pre : List Leg) : List Leg → Int
  | [] => 0
  | l :: r => if legFault l = 0 then (if hasPlace pre l then 7 else scan (pre ++ [l]) r) else legFault l
def sumA (a : Int) : List Leg → Int
  | [] => 0
  | l :: r => (if l.ast = a then l.am else 0) + sumA a r
def contractFault (id : Int) (xs : List Leg) : Int :=
  if inB id 1 1000000000 then
    (if xs.length < 2 ∨ 8 < xs.length then 2
    else if scan [] xs = 0 then (if sumA 0 xs = 0 ∧ sumA 1 xs = 0 ∧ sumA 2 xs = 0 then 0 else 1) else scan [] xs)
  else 3
def okTo (xs : List Leg) (k : Nat) : Prop := ∀ j, j < k → legFault (xs.getD j default) = 0 ∧ hasPlace (xs.take j) (xs.getD j default) = false
theorem drop_cons (xs : List Leg) (k : Nat) (h : k < xs.length) : xs.drop k = xs.getD k default :: xs.drop (k + 1) := by
  rw [List.drop_eq_getElem_cons h]
  simp [List.getD, h]
theorem take_snoc (xs : List Leg) (k : Nat) (h : k < xs.length) : xs.take (k + 1) = xs.take k ++ [xs.getD k default] := by
  rw [List.take_succ_eq_append_getElem h]
  simp [List.getD, h]
theorem scan_at (xs : List Leg) : ∀ k, k ≤ xs.length → okTo xs k → scan [] xs = scan (xs.take k) (xs.drop k)
  | 0, _, _ => by simp
  | k + 1, hk, h => by
    have ih := scan_at xs k (by omega) (fun j hj => h j (by omega))
    obtain ⟨h1, h2⟩ := h k (by omega)
    rw [ih, drop_cons xs k (by omega), scan, if_pos h1, if_neg (by rw [h2]; decide), take_snoc xs k (by omega)]
theorem scan_bad {xs : List Leg} {k : Nat} (hk : k < xs.length) (h : okTo xs k) (hb : ¬ legFault (xs.getD k default) = 0) : scan [] xs = legFault (xs.getD k default) := by
  rw [scan_at xs k (by omega) h, drop_cons xs k hk, scan, if_neg hb]
theorem scan_taken {xs : List Leg} {k : Nat} (hk : k < xs.length) (h : okTo xs k) (h0 : legFault (xs.getD k default) = 0) (hb : hasPlace (xs.take k) (xs.getD k default) = true) : scan [] xs = 7 := by
  rw [scan_at xs k (by omega) h, drop_cons xs k hk, scan, if_pos h0, if_pos hb]
theorem scan_ok {xs : List Leg} (h : okTo xs xs.length) : scan [] xs = 0 := by
  rw [scan_at xs xs.length (Nat.le_refl _) h]; simp [scan]
theorem okTo_succ {xs : List Leg} {k : Nat} (h : okTo xs k) (h0 : legFault (xs.getD k default) = 0) (h1 : hasPlace (xs.take k) (xs.getD k default) = false) : okTo xs (k + 1) := by
  intro j hj
  by_cases e : j < k
  · exact h j e
  · have : j = k := by omega
    subst this
    exact ⟨h0, h1⟩
theorem inB_iff (n lo hi : Int) : inB n lo hi = true ↔ lo ≤ n ∧ n ≤ hi := by simp [inB]
theorem legFault_zero {l : Leg} (h : legFault l = 0) : (0 ≤ l.sh ∧ l.sh ≤ 2) ∧ (0 ≤ l.ac ∧ l.ac ≤ 5) ∧ (0 ≤ l.ast ∧ l.ast ≤ 2) ∧ (-1000000000000 ≤ l.am ∧ l.am ≤ 1000000000000) ∧ l.am ≠ 0 := by
  unfold legFault at h
  split at h
  · rename_i hp
    simp [placeB, inB_iff] at hp
    split at h
    · omega
    · exact ⟨by omega, by omega, by omega, by omega, by assumption⟩
  · omega
theorem sumA_append (a : Int) (l r : List Leg) : sumA a (l ++ r) = sumA a l + sumA a r := by
  induction l with
  | nil => simp [sumA]
  | cons x l ih => simp only [List.cons_append, sumA, ih]; omega
theorem sumA_snoc (a : Int) (xs : List Leg) (k : Nat) (h : k < xs.length) : sumA a (xs.take (k + 1)) = sumA a (xs.take k) + if (xs.getD k default).ast = a then (xs.getD k default).am else 0 := by
  rw [take_snoc xs k h, sumA_append]; simp [sumA]
theorem sumA_bound (a : Int) (xs : List Leg) : ∀ k, k ≤ xs.length → okTo xs k → -(k * 1000000000000 : Int) ≤ sumA a (xs.take k) ∧ sumA a (xs.take k) ≤ k * 1000000000000
  | 0, _, _ => by simp [sumA]
  | k + 1, hk, h => by
    have ih := sumA_bound a xs k (by omega) (fun j hj => h j (by omega))
    have hb := (legFault_zero (h k (by omega)).1).2.2.2.1
    rw [sumA_snoc a xs k (by omega)]
    split <;> omega
theorem hasPlace_snoc (xs : List Leg) (k : Nat) (h : k < xs.length) (l : Leg) : hasPlace (xs.take (k + 1)) l = (hasPlace (xs.take k) l || samePlace (xs.getD k default) l) := by
  rw [take_snoc xs k h]; simp [hasPlace]
theorem hasPlace_mono {xs : List Leg} {k m : Nat} {l : Leg} (hkm : k ≤ m) (h : hasPlace (xs.take k) l = true) : hasPlace (xs.take m) l = true := by
  simp only [hasPlace, List.any_eq_true] at h ⊢
  obtain ⟨o, ho, hs⟩ := h
  exact ⟨o, (List.take_subset_take_left xs hkm) ho, hs⟩
theorem cf_val {id : Int} {xs : List Leg} (hid : inB id 1 1000000000 = true) (h2 : 2 ≤ xs.length) (h8 : xs.length ≤ 8) : contractFault id xs = if scan [] xs = 0 then (if sumA 0 xs = 0 ∧ sumA 1 xs = 0 ∧ sumA 2 xs = 0 then 0 else 1) else scan [] xs := by
  rw [contractFault, if_pos hid, if_neg (by omega)]
theorem cf_bad {id : Int} {xs : List Leg} (hid : inB id 1 1000000000 = true) (h2 : 2 ≤ xs.length) (h8 : xs.length ≤ 8) {k : Nat} (hk : k < xs.length) (h : okTo xs k) (hb : ¬ legFault (xs.getD k default) = 0) : contractFault id xs = legFault (xs.getD k default) := by
  rw [cf_val hid h2 h8, scan_bad hk h hb, if_neg hb]
theorem cf_taken {id : Int} {xs : List Leg} (hid : inB id 1 1000000000 = true) (h2 : 2 ≤ xs.length) (h8 : xs.length ≤ 8) {k : Nat} (hk : k < xs.length) (h : okTo xs k) (h0 : legFault (xs.getD k default) = 0) (hb : hasPlace (xs.take k) (xs.getD k default) = true) : contractFault id xs = 7 := by
  rw [cf_val hid h2 h8, scan_taken hk h h0 hb, if_neg (by decide)]
theorem cf_sum {id : Int} {xs : List Leg} (hid : inB id 1 1000000000 = true) (h2 : 2 ≤ xs.length) (h8 : xs.length ≤ 8) (h : okTo xs xs.length) (hs : ¬ (sumA 0 xs = 0 ∧ sumA 1 xs = 0 ∧ sumA 2 xs = 0)) : contractFault id xs = 1 := by
  rw [cf_val hid h2 h8, scan_ok h, if_pos rfl, if_neg hs]
theorem cf_zero {id : Int} {xs : List Leg} (hid : inB id 1 1000000000 = true) (h2 : 2 ≤ xs.length) (h8 : xs.length ≤ 8) (h : okTo xs xs.length) (hs : sumA 0 xs = 0 ∧ sumA 1 xs = 0 ∧ sumA 2 xs = 0) : contractFault id xs = 0 := by
  rw [cf_val hid h2 h8, scan_ok h, if_pos rfl, if_pos hs]
end Go.Proofs.Ytgjpafalompecaa

/-
  The specification's ContractFault answers as the plain mathematics says.
-/
namespace Go.Proofs.Ytgjpafalompecaa
open Go.RowKit
set_option linter.unusedSectionVars false
variable [DecidableEq Leg] [Inhabited Leg]
attribute [local go_sem ↓] Go.wp_at_zero Go.wp_at_succ

theorem make3 (w : World) : (Instr.makeSlice 50 (.int .i64 3) (.int .i64 3)).run Try.prog w = .ok (.slice (some ⟨w.heap.size, 0, none⟩) 3 3) (w.alloc (.cells #[.int .i64 0, .int .i64 0, .int .i64 0] 2)) := by kernel_rfl
set_option maxHeartbeats 1000000 in
theorem specFault_early (id : Int) (x : Value) (xs : List Leg) (w : World) (hx : LegsV w x xs) (h : inB id 1 1000000000 = false ∨ xs.length < 2 ∨ 8 < xs.length) :
    Calls Try.prog 49 #[.agg #[.int .i64 id, x]] w fun e w' => e = .returned (.int .i64 (contractFault id xs)) ∧ Below w.heap.size w w' := by
  obtain ⟨ax, cx, rfl, hcx, hmx, hx⟩ := hx
  unfold maxLen at hmx
  clear hx
  by_cases hid : inB id 1 1000000000 = false
  · go_enter Try.func49, Try.ntmps49
    go_wp2_with (go_at_call 70; refine (l1Id_any _ _).mono ?_; rintro e w' ⟨rfl, rfl⟩)
    go_ret
    exact ⟨by simp [contractFault, hid], balloc (Below.refl _ _) _⟩
  · have hid' : inB id 1 1000000000 = true := by simpa using hid
    have hn : xs.length < 2 ∨ 8 < xs.length := by
      rcases h with h | h
      · exact absurd h hid
      · exact h
    have hcf : contractFault id xs = 2 := by simp [contractFault, hid', hn]
    rw [hcf]
    generalize xs.length = n at *
    clear hid h hcf
    rcases hn with hn | hn
    · have h1 : (n : Int) < 2 := by omega
      go_enter Try.func49, Try.ntmps49
      go_wp2_with (go_at_call 70; refine (l1Id_any _ _).mono ?_; rintro e w' ⟨rfl, rfl⟩)
      go_ret
      exact ⟨rfl, balloc (Below.refl _ _) _⟩
    · have h1 : ¬ (n : Int) < 2 := by omega
      have h2 : (8 : Int) < (n : Int) := by omega
      go_enter Try.func49, Try.ntmps49
      go_wp2_with (go_at_call 70; refine (l1Id_any _ _).mono ?_; rintro e w' ⟨rfl, rfl⟩)
      go_ret
      exact ⟨rfl, balloc (Below.refl _ _) _⟩
set_option maxHeartbeats 2000000 in
theorem specFault_late (id : Int) (x : Value) (xs : List Leg) (w : World) (hx : LegsV w x xs) (hid : inB id 1 1000000000 = true) (hn2 : 2 ≤ xs.length) (hn8 : xs.length ≤ 8) :
    Calls Try.prog 49 #[.agg #[.int .i64 id, x]] w fun e w' => e = .returned (.int .i64 (contractFault id xs)) ∧ Below w.heap.size w w' := by
  obtain ⟨ax, cx, rfl, hcx, hmx, hx⟩ := hx
  unfold maxLen at hmx
  generalize hn' : xs.length = n at *
  have HN : Hid (xs.length = n) := hn'
  clear hn'
  have h1 : ¬ (n : Int) < 2 := by omega
  have h2 : ¬ (8 : Int) < (n : Int) := by omega
  have hmk := make3
  go_enter Try.func49, Try.ntmps49
  go_wp2_with (go_at_call 70; refine (l1Id_any _ _).mono ?_; rintro e w' ⟨rfl, rfl⟩)
  go_loopw [4] (fun i w' => ∃ k : Nat, k ≤ n ∧ i = .int .i64 k ∧ okTo xs k ∧ (∀ j : Nat, j < 3 → w'.cell? ⟨w.heap.size + 1, j, none⟩ = some (.int .i64 (sumA j (xs.take k))) ∧ w'.frozen? ⟨w.heap.size + 1, j, none⟩ = false) ∧
      w'.cell? ⟨w.heap.size, 1, none⟩ = some (.slice ax n cx) ∧ w.heap.size + 1 < w'.heap.size ∧ Below w.heap.size w w') (fun i _ => n - (intOf i).toNat)
  case atStart =>
    refine ⟨0, Nat.zero_le _, rfl, fun j h => by omega, fun j hj => ?_, by simp [go_sem], by simp, balloc (balloc (Below.refl _ _) _) _⟩
    match j, hj with
    | 0, _ => exact ⟨by simp [go_sem, sumA], by simp [go_sem]⟩
    | 1, _ => exact ⟨by simp [go_sem, sumA], by simp [go_sem]⟩
    | 2, _ => exact ⟨by simp [go_sem, sumA], by simp [go_sem]⟩
  case round =>
    obtain ⟨k, hk, rfl, hok, hs, hcx1, hsz, hbl⟩ := hrel
    generalize wr = wo at *
    have HO : Hid (okTo xs k) := hok
    have HS : Hid (∀ j : Nat, j < 3 → wo.cell? ⟨w.heap.size + 1, j, none⟩ = some (.int .i64 (sumA j (xs.take k))) ∧ wo.frozen? ⟨w.heap.size + 1, j, none⟩ = false) := hs
    clear hok hs
    by_cases hlt : k < n
    · obtain ⟨bx, ox, rfl, g1⟩ := hx k hlt
      obtain ⟨l, hl⟩ : ∃ l, l = xs.getD k default := ⟨_, rfl⟩
      rw [← hl] at g1
      have HL : Hid (l = xs.getD k default) := hl
      clear hl
      obtain ⟨a1, a2, a3, a4⟩ := legCells_below hbl g1
      go_wp2_with fail
      refine (specLegFault_any l _).mono ?_
      rintro e w2 ⟨rfl, hb2⟩
      obtain ⟨hc2, hf2⟩ := bcell hb2
      have hbl2 : Below w.heap.size w w2 := bstep (balloc hbl _) hb2
      have hz2 : wo.heap.size < w2.heap.size := by have := hb2.size; simp at this; omega
      have hcx2 : w2.cell? ⟨w.heap.size, 1, none⟩ = some (.slice (some ⟨bx, ox, none⟩) n cx) := by
        rw [hc2 _ _ (by simp; omega)]; simp [go_sem, hcx1, show w.heap.size < wo.heap.size by omega]
      have hl2 : legCells w2 wo.heap.size 0 l := by
        refine ⟨?_, ?_, ?_, ?_⟩ <;> (rw [hc2 _ _ (by simp)]; simp [go_sem])
      have HS2 : Hid (∀ j : Nat, j < 3 → w2.cell? ⟨w.heap.size + 1, j, none⟩ = some (.int .i64 (sumA j (xs.take k))) ∧ w2.frozen? ⟨w.heap.size + 1, j, none⟩ = false) := by
        intro j hj
        have := HS.out j hj
        rw [hc2 _ _ (by simp; omega), hf2 _ _ (by simp; omega)]
        simpa [go_sem, hsz] using this
      clear hc2 hf2 hb2 a1 a2 a3 a4 hcx1 HS hbl
      by_cases hlf : legFault l = 0
      · have HF : Hid (legFault l = 0) := hlf
        rw [hlf]
        clear hlf
        go_wp2
        go_loopw [7] (fun i w' => ∃ m : Nat, m ≤ k ∧ i = .int .i64 m ∧ hasPlace (xs.take m) l = false ∧ Below w2.heap.size w2 w') (fun i _ => k - (intOf i).toNat)
        case atStart => exact ⟨0, Nat.zero_le _, rfl, by simp [hasPlace], Below.refl _ _⟩
        case round =>
          obtain ⟨m, hm, rfl, hp, hb3⟩ := hrel
          have HP : Hid (hasPlace (xs.take m) l = false) := hp
          clear hp
          by_cases hmk' : m < k
          · obtain ⟨b', o', he, g2⟩ := hx m (by omega)
            simp only [Option.some.injEq, Addr.mk.injEq, and_true] at he
            obtain ⟨rfl, rfl⟩ := he
            obtain ⟨o, ho⟩ : ∃ o, o = xs.getD m default := ⟨_, rfl⟩
            rw [← ho] at g2
            have HO2 : Hid (o = xs.getD m default) := ho
            clear ho
            obtain ⟨c1, c2, c3, c4⟩ := legCells_below (bstep hbl2 hb3) g2
            obtain ⟨d1, d2, d3, d4⟩ := legCells_below hb3 hl2
            simp only [Nat.zero_add] at d1 d2 d3 d4
            have e1 : wr.cell? ⟨w.heap.size, 1, none⟩ = some (.slice (some ⟨bx, ox, none⟩) n cx) := by
              rw [(bcell hb3).1 _ _ (by omega)]; exact hcx2
            have hz3 : wo.heap.size < wr.heap.size := by have := hb3.size; omega
            have hz4 : w.heap.size < wr.heap.size := by omega
            have hz5 : bx < wr.heap.size := World.block_lt_of_cell? wr _ c1
            go_wp2
            · rename_i s1 s2 s3
              go_ret
              refine ⟨?_, balloc (bstep hbl2 hb3) _⟩
              have hp : hasPlace (xs.take k) (xs.getD k default) = true := by
                refine hasPlace_mono (k := m + 1) (by omega) ?_
                rw [hasPlace_snoc xs m (by have := HN.out; omega), ← HL.out, ← HO2.out]
                have : l.ast = o.ast := by simpa using (Eq.symm (by simpa using s3 : o.ast = l.ast))
                simp [samePlace, s1, s2, this]
              have := HN.out
              rw [cf_taken hid (by omega) (by omega) (k := k) (by omega) HO.out (by rw [← HL.out]; exact HF.out) hp]
              rfl
            all_goals
              refine ⟨⟨m + 1, by omega, by go_num, ?_, balloc hb3 _⟩, by simp [intOf]; omega⟩
              rw [hasPlace_snoc xs m (by have := HN.out; omega), ← HO2.out, HP.out]
              simp_all [samePlace]
          · have hmk2 : m = k := by omega
            subst hmk2
            obtain ⟨d1, d2, d3, d4⟩ := legCells_below hb3 hl2
            simp only [Nat.zero_add] at d1 d2 d3 d4
            have hz3 : wo.heap.size < wr.heap.size := by have := hb3.size; omega
            have hz4 : w.heap.size < wr.heap.size := by omega
            have lz := legFault_zero HF.out
            obtain ⟨_, _, ⟨q1, q2⟩, ⟨q3, q4⟩, _⟩ := lz
            have q2' : l.ast < 3 := by omega
            have HS3 : Hid (∀ j : Nat, j < 3 → wr.cell? ⟨w.heap.size + 1, j, none⟩ = some (.int .i64 (sumA j (xs.take m))) ∧ wr.frozen? ⟨w.heap.size + 1, j, none⟩ = false) := by
              intro j hj
              rw [(bcell hb3).1 _ _ (by omega), (bcell hb3).2 _ _ (by omega)]
              exact HS2.out j hj
            have f1 := HS3.out l.ast.toNat (by omega)
            obtain ⟨f1, f2⟩ := f1
            rw [show ((l.ast.toNat : Nat) : Int) = l.ast by omega] at f1
            obtain ⟨s, hs⟩ : ∃ s, s = sumA l.ast (xs.take m) := ⟨_, rfl⟩
            have sb := sumA_bound l.ast xs m (by have := HN.out; omega) HO.out
            rw [← hs] at f1 sb
            have HSS : Hid (s = sumA l.ast (xs.take m)) := hs
            clear hs
            obtain ⟨sb1, sb2⟩ := sb
            have sb3 : -8000000000000 ≤ s := by omega
            have sb4 : s ≤ 8000000000000 := by omega
            clear sb1 sb2
            go_wp2
            go_region
            go_wp2
            have hmn : m < xs.length := by have := HN.out; omega
            refine ⟨⟨m + 1, by omega, by go_num, okTo_succ HO.out (by rw [← HL.out]; exact HF.out) (by rw [← HL.out]; exact HP.out), ?_, ?_, by simp; omega, ?_⟩, by simp [intOf]; omega⟩
            · intro j hj
              have old := HS3.out j hj
              show (wr.setCell _ _).cell? _ = _ ∧ (wr.setCell _ _).frozen? _ = _
              rw [World.frozen?_setCell]
              refine ⟨?_, old.2⟩
              rw [sumA_snoc (j : Int) xs m hmn, ← HL.out]
              by_cases hje : l.ast.toNat = j
              · subst hje
                rw [set_same f1, HSS.out, show ((l.ast.toNat : Nat) : Int) = l.ast by omega, if_pos rfl]
              · rw [set_other (by simp), old.1, if_neg (by omega), Int.add_zero]
            · show (wr.setCell _ _).cell? _ = _
              rw [set_other (by simp)]
              rw [(bcell hb3).1 _ _ (by omega)]; exact hcx2
            · exact (bset (bstep hbl2 hb3) (by simp) _).drew
      · have hd : (legFault l == 0) = false := by simpa using hlf
        go_wp2
        go_ret
        refine ⟨?_, hbl2⟩
        have := HN.out
        rw [cf_bad hid (by omega) (by omega) (k := k) (by omega) HO.out (by rw [← HL.out]; exact hlf), ← HL.out]
        rfl
    · have hkn : k = n := by omega
      subst hkn
      have t0 : xs.take k = xs := by rw [← HN.out]; exact List.take_length
      rw [t0] at HS
      have HO' : Hid (okTo xs xs.length) := by rw [HN.out]; exact HO.out
      clear HO
      go_wp2
      go_loopw [9] (fun i w' => ∃ m : Nat, m ≤ 3 ∧ i = .int .i64 m ∧ (∀ j : Nat, j < m → sumA j xs = 0) ∧ w' = wo) (fun i _ => 3 - (intOf i).toNat)
      case atStart => exact ⟨0, by omega, rfl, fun j h => by omega, rfl⟩
      case round =>
        obtain ⟨m, hm, rfl, hp, rfl⟩ := hrel
        have HP : Hid (∀ j : Nat, j < m → sumA j xs = 0) := hp
        clear hp
        by_cases hm3 : m < 3
        · obtain ⟨f1, _⟩ := HS.out m hm3
          obtain ⟨s, hs⟩ : ∃ s, s = sumA m xs := ⟨_, rfl⟩
          rw [← hs] at f1
          have HSS : Hid (s = sumA m xs) := hs
          clear hs
          by_cases hs0 : s = 0
          · subst hs0
            go_wp2
            refine ⟨⟨m + 1, by omega, by go_num, fun j hj => ?_, trivial⟩, by simp [intOf]; omega⟩
            by_cases hjm : j < m
            · exact HP.out j hjm
            · have : j = m := by omega
              subst this
              exact HSS.out.symm
          · have hd : (s == 0) = false := by simpa using hs0
            go_wp2
            go_ret
            have := HN.out
            rw [cf_sum hid (by omega) (by omega) HO'.out]
            · exact ⟨rfl, hbl⟩
            · intro ⟨z0, z1, z2⟩
              apply hs0
              rw [HSS.out]
              match m, hm3 with
              | 0, _ => exact z0
              | 1, _ => exact z1
              | 2, _ => exact z2
        · have hm3' : m = 3 := by omega
          subst hm3'
          go_wp2
          go_ret
          have := HN.out
          rw [cf_zero hid (by omega) (by omega) HO'.out ⟨HP.out 0 (by omega), HP.out 1 (by omega), HP.out 2 (by omega)⟩]
          exact ⟨rfl, hbl⟩
theorem specFault_any (id : Int) (x : Value) (xs : List Leg) (w : World) (hx : LegsV w x xs) :
    Calls Try.prog 49 #[.agg #[.int .i64 id, x]] w fun e w' => e = .returned (.int .i64 (contractFault id xs)) ∧ Below w.heap.size w w' := by
  by_cases h : inB id 1 1000000000 = false ∨ xs.length < 2 ∨ 8 < xs.length
  · exact specFault_early id x xs w hx h
  · have h1 : inB id 1 1000000000 = true := by
      cases hb : inB id 1 1000000000 with
      | true => rfl
      | false => exact absurd (Or.inl hb) h
    exact specFault_late id x xs w hx h1 (by omega) (by omega)
end Go.Proofs.Ytgjpafalompecaa

