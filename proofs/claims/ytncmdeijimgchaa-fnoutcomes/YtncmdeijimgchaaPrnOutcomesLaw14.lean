import Derived.Test.YtncmdeijimgchaaPrnOutcomesLaw13
import Derived.Deep.AppendLies
import Derived.Test.YtncmdeijimgchaaPrnOutcomesLaw3

/-
  Contracts as values: the law's own copy, comparison and count of a contract.
-/
namespace Go.Proofs.Ytncmdeijimgchaa
open Go.RowKit
set_option linter.unusedSectionVars false
variable [DecidableEq Leg] [Inhabited Leg]
attribute [local go_sem ↓] Go.wp_at_zero Go.wp_at_succ

theorem LegsV_below {w w' : World} {v : Value} {xs : List Leg} (h : LegsV w v xs) (hb : Below w.heap.size w w') : LegsV w' v xs := by
  obtain ⟨a, cap, rfl, h1, h2, h3⟩ := h
  exact ⟨a, cap, rfl, h1, h2, fun i hi => by
    obtain ⟨b, o, ha, hc⟩ := h3 i hi
    exact ⟨b, o, ha, legCells_below hb hc⟩⟩
end Go.Proofs.Ytncmdeijimgchaa

/-
  Rows of numbers: compared, marked and read back; and the answers that hold one.
-/
namespace Go.Proofs.Ytncmdeijimgchaa
open Go.RowKit
set_option linter.unusedSectionVars false
variable [DecidableEq Leg] [Inhabited Leg]
attribute [local go_sem ↓] Go.wp_at_zero Go.wp_at_succ

def intsC (ys : List Int) : List Value := ys.map (Value.int .i64)
theorem infoInt : (Try.prog.info? 2).map (fun i => (i.zero, i.size, i.bytes)) = some (some (.int .i64 0), 1, 8) := by kernel_rfl
def IntsV (w : World) (v : Value) (ys : List Int) : Prop :=
  ∃ a cap, v = .slice a ys.length cap ∧ ys.length ≤ cap ∧ cap ≤ maxLen ∧ ∀ i, i < ys.length → ∃ b o, a = some ⟨b, o, none⟩ ∧ w.cell? ⟨b, o + i, none⟩ = some (.int .i64 (ys.getD i 0))
theorem IntsV_below {w w' : World} {v : Value} {ys : List Int} (h : IntsV w v ys) (hb : Below w.heap.size w w') : IntsV w' v ys := by
  obtain ⟨a, cap, rfl, h1, h2, h3⟩ := h
  exact ⟨a, cap, rfl, h1, h2, fun i hi => by
    obtain ⟨b, o, ha, hc⟩ := h3 i hi
    exact ⟨b, o, ha, cell_keep hb hc⟩⟩
theorem IntsV_of_owns {w : World} {base e : Nat} {v : Value} {ys : List Int} (h : w.ownsRow base e 1 v ys.length (intsC ys)) : IntsV w v ys := by
  rcases h.2 with ⟨rfl, hn⟩ | ⟨g, cap, cur, rfl, hb, hg, hnc, hcm, hcs, htake⟩
  · exact ⟨none, 0, by rw [hn], by omega, by unfold maxLen; omega, fun i hi => by omega⟩
  · refine ⟨some ⟨g, 0, none⟩, cap, rfl, hnc, hcm, fun i hi => ⟨g, 0, rfl, ?_⟩⟩
    rw [Nat.zero_add]
    refine (h.cellAt i (by omega)).trans ?_
    simp [intsC, List.getD, hi]
end Go.Proofs.Ytncmdeijimgchaa

/-
  A number put into a rising list (the specification's own helper).
-/
namespace Go.Proofs.Ytncmdeijimgchaa
open Go.RowKit
set_option linter.unusedSectionVars false
variable [DecidableEq Leg] [Inhabited Leg]
attribute [local go_sem ↓] Go.wp_at_zero Go.wp_at_succ

def ahead (ys : List Int) (v : Int) : Nat := (ys.takeWhile (· < v)).length
section
variable {P : Program} (w : World)
end

theorem intsC_one (ys : List Int) : ∀ u ∈ intsC ys, u.oneCell' = true := by
  intro u hu
  simp only [intsC, List.mem_map] at hu
  obtain ⟨y, _, rfl⟩ := hu
  rfl
theorem src_one {w' : World} {g : Nat} {v : Int} (h : w'.cell? ⟨g, 0, none⟩ = some (.int .i64 v)) : ∀ j u, (intsC [v])[j]? = some u → w'.cell? ((⟨g, 0, none⟩ : Addr).add j) = some u := by
  intro j u hj
  match j, hj with
  | 0, hj => simp [intsC] at hj; subst hj; simpa [Addr.add] using h
  | j + 1, hj => simp [intsC] at hj
end Go.Proofs.Ytncmdeijimgchaa

/-
  What is asked of a contract, as plain mathematics: the first leg that is wrong, and the sums of the assets.
-/
namespace Go.Proofs.Ytncmdeijimgchaa
open Go.RowKit
set_option linter.unusedSectionVars false
variable [DecidableEq Leg] [Inhabited Leg]

def samePlace (a b : Leg) : Bool := a.sh == b.sh && (a.ac == b.ac && a.ast == b.ast)
def hasPlace (pre : List Leg) (l : Leg) : Bool := pre.any (fun o => samePlace o l)
def scan (pre : List Leg) : List Leg → Int
  | [] => 0
  | l :: r => if legFault l = 0 then (if hasPlace pre l then 7 else scan (pre ++ [l]) r) else legFault l
def sumA (a : Int) : List Leg → Int
  | [] => 0
  | l :: r => (if l.ast = a then l.am else 0) + sumA a r
def contractFault (id : Int) (xs : List Leg) : Int :=
  if inB id 1 1000000000 then
    (if xs.length < 2 ∨ 8 < xs.length then 2
    else if scan [] xs = 0 then (if sumA 0 xs = 0 ∧ sumA 1 xs = 0 ∧ sumA 2 xs = 0 then 0 else 1) else scan [] xs)
  else 3
def okTo (xs : List Leg) (k : Nat) : Prop := ∀ j, j < k → legFault (xs.getD j default) = 0 ∧ hasPlace (xs.take j) (xs.getD j default) = false
theorem drop_cons (xs : List Leg) (k : Nat) (h : k < xs.length) : xs.drop k = xs.getD k default :: xs.drop (k + 1) := by
  rw [List.drop_eq_getElem_cons h]
  simp [List.getD, h]
theorem take_snoc (xs : List Leg) (k : Nat) (h : k < xs.length) : xs.take (k + 1) = xs.take k ++ [xs.getD k default] := by
  rw [List.take_succ_eq_append_getElem h]
  simp [List.getD, h]
theorem scan_at (xs : List Leg) : ∀ k, k ≤ xs.length → okTo xs k → scan [] xs = scan (xs.take k) (xs.drop k)
  | 0, _, _ => by simp
  | k + 1, hk, h => by
    have ih := scan_at xs k (by omega) (fun j hj => h j (by omega))
    obtain ⟨h1, h2⟩ := h k (by omega)
    rw [ih, drop_cons xs k (by omega), scan, if_pos h1, if_neg (by rw [h2]; decide), take_snoc xs k (by omega)]
theorem scan_bad {xs : List Leg} {k : Nat} (hk : k < xs.length) (h : okTo xs k) (hb : ¬ legFault (xs.getD k default) = 0) : scan [] xs = legFault (xs.getD k default) := by
  rw [scan_at xs k (by omega) h, drop_cons xs k hk, scan, if_neg hb]
theorem scan_taken {xs : List Leg} {k : Nat} (hk : k < xs.length) (h : okTo xs k) (h0 : legFault (xs.getD k default) = 0) (hb : hasPlace (xs.take k) (xs.getD k default) = true) : scan [] xs = 7 := by
  rw [scan_at xs k (by omega) h, drop_cons xs k hk, scan, if_pos h0, if_pos hb]
theorem scan_ok {xs : List Leg} (h : okTo xs xs.length) : scan [] xs = 0 := by
  rw [scan_at xs xs.length (Nat.le_refl _) h]; simp [scan]
theorem okTo_succ {xs : List Leg} {k : Nat} (h : okTo xs k) (h0 : legFault (xs.getD k default) = 0) (h1 : hasPlace (xs.take k) (xs.getD k default) = false) : okTo xs (k + 1) := by
  intro j hj
  by_cases e : j < k
  · exact h j e
  · have : j = k := by omega
    subst this
    exact ⟨h0, h1⟩
theorem inB_iff (n lo hi : Int) : inB n lo hi = true ↔ lo ≤ n ∧ n ≤ hi := by simp [inB]
theorem legFault_zero {l : Leg} (h : legFault l = 0) : (0 ≤ l.sh ∧ l.sh ≤ 2) ∧ (0 ≤ l.ac ∧ l.ac ≤ 5) ∧ (0 ≤ l.ast ∧ l.ast ≤ 2) ∧ (-1000000000000 ≤ l.am ∧ l.am ≤ 1000000000000) ∧ l.am ≠ 0 := by
  unfold legFault at h
  split at h
  · rename_i hp
    simp [placeB, inB_iff] at hp
    split at h
    · omega
    · exact ⟨by omega, by omega, by omega, by omega, by assumption⟩
  · omega
theorem sumA_append (a : Int) (l r : List Leg) : sumA a (l ++ r) = sumA a l + sumA a r := by
  induction l with
  | nil => simp [sumA]
  | cons x l ih => simp only [List.cons_append, sumA, ih]; omega
theorem sumA_snoc (a : Int) (xs : List Leg) (k : Nat) (h : k < xs.length) : sumA a (xs.take (k + 1)) = sumA a (xs.take k) + if (xs.getD k default).ast = a then (xs.getD k default).am else 0 := by
  rw [take_snoc xs k h, sumA_append]; simp [sumA]
theorem sumA_bound (a : Int) (xs : List Leg) : ∀ k, k ≤ xs.length → okTo xs k → -(k * 1000000000000 : Int) ≤ sumA a (xs.take k) ∧ sumA a (xs.take k) ≤ k * 1000000000000
  | 0, _, _ => by simp [sumA]
  | k + 1, hk, h => by
    have ih := sumA_bound a xs k (by omega) (fun j hj => h j (by omega))
    have hb := (legFault_zero (h k (by omega)).1).2.2.2.1
    rw [sumA_snoc a xs k (by omega)]
    split <;> omega
theorem hasPlace_snoc (xs : List Leg) (k : Nat) (h : k < xs.length) (l : Leg) : hasPlace (xs.take (k + 1)) l = (hasPlace (xs.take k) l || samePlace (xs.getD k default) l) := by
  rw [take_snoc xs k h]; simp [hasPlace]
theorem hasPlace_mono {xs : List Leg} {k m : Nat} {l : Leg} (hkm : k ≤ m) (h : hasPlace (xs.take k) l = true) : hasPlace (xs.take m) l = true := by
  simp only [hasPlace, List.any_eq_true] at h ⊢
  obtain ⟨o, ho, hs⟩ := h
  exact ⟨o, (List.take_subset_take_left xs hkm) ho, hs⟩
theorem cf_val {id : Int} {xs : List Leg} (hid : inB id 1 1000000000 = true) (h2 : 2 ≤ xs.length) (h8 : xs.length ≤ 8) : contractFault id xs = if scan [] xs = 0 then (if sumA 0 xs = 0 ∧ sumA 1 xs = 0 ∧ sumA 2 xs = 0 then 0 else 1) else scan [] xs := by
  rw [contractFault, if_pos hid, if_neg (by omega)]
theorem cf_bad {id : Int} {xs : List Leg} (hid : inB id 1 1000000000 = true) (h2 : 2 ≤ xs.length) (h8 : xs.length ≤ 8) {k : Nat} (hk : k < xs.length) (h : okTo xs k) (hb : ¬ legFault (xs.getD k default) = 0) : contractFault id xs = legFault (xs.getD k default) := by
  rw [cf_val hid h2 h8, scan_bad hk h hb, if_neg hb]
theorem cf_taken {id : Int} {xs : List Leg} (hid : inB id 1 1000000000 = true) (h2 : 2 ≤ xs.length) (h8 : xs.length ≤ 8) {k : Nat} (hk : k < xs.length) (h : okTo xs k) (h0 : legFault (xs.getD k default) = 0) (hb : hasPlace (xs.take k) (xs.getD k default) = true) : contractFault id xs = 7 := by
  rw [cf_val hid h2 h8, scan_taken hk h h0 hb, if_neg (by decide)]
theorem cf_sum {id : Int} {xs : List Leg} (hid : inB id 1 1000000000 = true) (h2 : 2 ≤ xs.length) (h8 : xs.length ≤ 8) (h : okTo xs xs.length) (hs : ¬ (sumA 0 xs = 0 ∧ sumA 1 xs = 0 ∧ sumA 2 xs = 0)) : contractFault id xs = 1 := by
  rw [cf_val hid h2 h8, scan_ok h, if_pos rfl, if_neg hs]
theorem cf_zero {id : Int} {xs : List Leg} (hid : inB id 1 1000000000 = true) (h2 : 2 ≤ xs.length) (h8 : xs.length ≤ 8) (h : okTo xs xs.length) (hs : sumA 0 xs = 0 ∧ sumA 1 xs = 0 ∧ sumA 2 xs = 0) : contractFault id xs = 0 := by
  rw [cf_val hid h2 h8, scan_ok h, if_pos rfl, if_pos hs]
end Go.Proofs.Ytncmdeijimgchaa

