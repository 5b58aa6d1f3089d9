/-
  MergeTables: what is answered; the specification's side.
-/
import Derived.Test.YtdfapehonegeeaaMrgS
import Derived.Test.YtdfapehonegeeaaRowP
namespace Go.Proofs.Ytdfapehonegeeaa
open Go.RowKit
set_option linter.unusedSectionVars false
variable [DecidableEq Rw] [Inhabited Rw] [DecidableEq TabR] [Inhabited TabR]
set_option linter.unusedVariables false
set_option linter.unusedSimpArgs false
attribute [local go_sem ↓] Go.wp_at_zero Go.wp_at_succ

theorem find_first : ∀ {l : List Int} {k : Nat}, k < l.length → (∀ j, j < k → l.getD j 0 = 0) → l.getD k 0 ≠ 0 → (l.find? (fun c => decide (c ≠ 0))).getD 0 = l.getD k 0
  | [], _, h, _, _ => by simp at h
  | x :: l, 0, _, _, hc => by
    have hx : x ≠ 0 := by simpa using hc
    rw [List.find?_cons_of_pos (by simpa using hx)]
    simp
  | x :: l, k + 1, hk, h, hc => by
    have hx : x = 0 := by simpa using h 0 (by omega)
    rw [List.find?_cons_of_neg (by simp [hx])]
    rw [find_first (l := l) (k := k) (by simpa using hk) (fun j hj => by simpa using h (j + 1) (by omega)) (by simpa using hc)]
    simp
theorem find_none : ∀ {l : List Int}, (∀ j, j < l.length → l.getD j 0 = 0) → (l.find? (fun c => decide (c ≠ 0))).getD 0 = 0
  | [], _ => rfl
  | x :: l, h => by
    have hx : x = 0 := by simpa using h 0 (by simp)
    rw [List.find?_cons_of_neg (by simp [hx])]
    exact find_none (fun j hj => by simpa using h (j + 1) (by simpa using hj))

/-- the code of the first table that has one -/
def firstF (xss : List (List Rw)) : Int := ((xss.map tabF).find? (fun c => decide (c ≠ 0))).getD 0
theorem getD_tabF (xss : List (List Rw)) {j : Nat} (hj : j < xss.length) : (xss.map tabF).getD j 0 = tabF (xss.getD j default) := by simp [List.getD, hj]
theorem firstF_at {xss : List (List Rw)} {k : Nat} (hk : k < xss.length) (h : ∀ j, j < k → tabF (xss.getD j default) = 0) (hc : tabF (xss.getD k default) ≠ 0) : firstF xss = tabF (xss.getD k default) := by
  unfold firstF
  rw [find_first (k := k) (by simpa using hk) (fun j hj => by rw [getD_tabF xss (by omega)]; exact h j hj) (by rw [getD_tabF xss hk]; exact hc), getD_tabF xss hk]
theorem firstF_none {xss : List (List Rw)} (h : ∀ j, j < xss.length → tabF (xss.getD j default) = 0) : firstF xss = 0 :=
  find_none (fun j hj => by rw [List.length_map] at hj; rw [getD_tabF xss hj]; exact h j hj)

def mergeL (xss : List (List Rw)) : List Rw := putsL [] (flatTo (fun i => xss.getD i default) xss.length)
def mergeD (xss : List (List Rw)) : TabR :=
  if 8 < xss.length then ⟨2, []⟩ else if firstF xss ≠ 0 then ⟨firstF xss, []⟩ else if 200 < (mergeL xss).length then ⟨2, []⟩ else ⟨0, mergeL xss⟩
theorem flatTo_len {f : Nat → List Rw} {M : Nat} : ∀ {n : Nat}, (∀ i, i < n → (f i).length ≤ M) → (flatTo f n).length ≤ n * M
  | 0, _ => by simp [flatTo]
  | n + 1, h => by
    have ih := flatTo_len (n := n) (fun i hi => h i (by omega))
    have h1 := h n (by omega)
    have e : flatTo f (n + 1) = flatTo f n ++ f n := rfl
    rw [e, List.length_append, Nat.succ_mul]
    omega
theorem mem_flatTo {f : Nat → List Rw} {x : Rw} : ∀ {n : Nat}, x ∈ flatTo f n → ∃ i, i < n ∧ x ∈ f i
  | 0, h => by simp [flatTo] at h
  | n + 1, h => by
    have e : flatTo f (n + 1) = flatTo f n ++ f n := rfl
    rw [e] at h
    rcases List.mem_append.1 h with h | h
    · obtain ⟨i, hi, hx⟩ := mem_flatTo h
      exact ⟨i, by omega, hx⟩
    · exact ⟨n, by omega, h⟩
theorem mergeL_fit {xss : List (List Rw)} (h : ∀ i, i < xss.length → Fit (xss.getD i default)) : Fit (mergeL xss) := by
  rw [fit_mem]
  intro x hx
  rcases mem_putsL hx with hx | hx
  · simp at hx
  · obtain ⟨i, hi, hx⟩ := mem_flatTo hx
    exact fit_mem.1 (h i hi) x hx
theorem rowFault_small {x : Rw} (h : rowFault x = 0) : x.key.size ≤ 20 ∧ x.val.size ≤ 100 := by
  unfold rowFault at h
  split at h
  · omega
  · rename_i h1
    split at h
    · omega
    · rename_i h2
      exact ⟨by omega, by omega⟩
theorem tab_small {xs : List Rw} (h : tabF xs = 0) : ∀ x ∈ xs, rowFault x = 0 := by
  intro x hx
  obtain ⟨i, hi, rfl⟩ := List.mem_iff_getElem.1 hx
  have := (tabAt_zero ((tabF_all h).2 i hi)).1
  simpa [List.getD, hi] using this
theorem wt_small : ∀ {ys : List Rw}, (∀ x ∈ ys, rowFault x = 0) → wtRows ys ≤ ys.length * 121
  | [], _ => by simp [wtRows]
  | y :: ys, h => by
    have ih := wt_small (ys := ys) (fun x hx => h x (List.mem_cons_of_mem _ hx))
    have h1 := rowFault_small (h y (List.mem_cons_self ..))
    unfold wtRows at ih ⊢
    simp only [List.length_cons, List.map_cons, List.sum_cons, Nat.succ_mul]
    have h2 : wtRw y = y.key.size + y.val.size := rfl
    omega
theorem firstF_zero {xss : List (List Rw)} (h : firstF xss = 0) : ∀ j, j < xss.length → tabF (xss.getD j default) = 0 := by
  intro j
  induction j using Nat.strongRecOn with
  | _ j ih =>
    intro hj
    by_cases hc : tabF (xss.getD j default) = 0
    · exact hc
    · have := firstF_at hj (fun i hi => ih i hi (by omega)) hc
      omega
theorem mergeL_small {xss : List (List Rw)} (h : ∀ j, j < xss.length → tabF (xss.getD j default) = 0) : ∀ x ∈ mergeL xss, rowFault x = 0 := by
  intro x hx
  rcases mem_putsL hx with hx | hx
  · simp at hx
  · obtain ⟨i, hi, hx⟩ := mem_flatTo hx
    exact tab_small (h i hi) x hx
theorem wt_nil : wtRows [] = 0 := rfl
theorem mergeD_le (xss : List (List Rw)) : wtTabR (mergeD xss) ≤ 24200 := by
  unfold mergeD
  split
  · show wtRows [] ≤ _; rw [wt_nil]; omega
  · split
    · show wtRows [] ≤ _; rw [wt_nil]; omega
    · rename_i h
      split
      · show wtRows [] ≤ _; rw [wt_nil]; omega
      · show wtRows (mergeL xss) ≤ _
        have := wt_small (mergeL_small (firstF_zero (by simpa using h)))
        omega

set_option maxRecDepth 20000 in
set_option maxHeartbeats 4000000 in
theorem specMerge_u (x : Value) (xss : List (List Rw)) (w : World) (hx : rowssR.V w x xss) :
    Calls Try.prog 14 #[x] w fun e w' => ∃ v F, e = .returned v ∧ tabRR.O w' w.heap.size F v (mergeD xss) ∧ Below w.heap.size w w' := by
  have HX : Hid (rowssR.V w x xss) := hx
  obtain ⟨ax, cx, rfl, hcx, hmx, hx⟩ := hx
  unfold maxLen at hmx
  have HN : Hid (Fit (mergeL xss)) := mergeL_fit (fun i hi => by
    obtain ⟨_, _, _, _, _, _, h⟩ := hx i hi
    exact h.2)
  have HD8 : Hid (8 < xss.length → mergeD xss = ⟨2, []⟩) := fun h => by unfold mergeD; rw [if_pos h]
  have HDF : Hid (¬ 8 < xss.length → ∀ k, k < xss.length → (∀ j, j < k → tabF (xss.getD j default) = 0) → tabF (xss.getD k default) ≠ 0 → mergeD xss = ⟨tabF (xss.getD k default), []⟩) := fun h k hk h1 h2 => by
    have e := firstF_at hk h1 h2
    unfold mergeD
    rw [if_neg h, if_pos (by rw [e]; exact h2), e]
  have HDM : Hid (¬ 8 < xss.length → (∀ j, j < xss.length → tabF (xss.getD j default) = 0) → mergeD xss = if 200 < (mergeL xss).length then ⟨2, []⟩ else ⟨0, mergeL xss⟩) := fun h h1 => by
    have e := firstF_none h1
    unfold mergeD
    rw [if_neg h, if_neg (by rw [e]; simp)]
  have HTL : Hid (¬ 8 < xss.length → (∀ j, j < xss.length → tabF (xss.getD j default) = 0) → (flatTo (fun i => xss.getD i default) xss.length).length ≤ 1000000) := fun h h1 => by
    have h2 := flatTo_len (f := fun i => xss.getD i default) (M := 200) (n := xss.length) (fun i hi => (tabF_all (h1 i hi)).1)
    omega
  obtain ⟨D, hD⟩ : ∃ D, mergeD xss = D := ⟨_, rfl⟩
  rw [hD] at HD8 HDF HDM ⊢
  clear hD
  generalize hN : xss.length = n at *
  have HNN : Hid (xss.length = n) := hN
  clear hN
  by_cases h8 : 8 < n
  · have hi8 : decide ((8 : Int) < n) = true := decide_eq_true (by omega)
    have hi9 : (8 : Int) < n := by omega
    have E := HD8.out h8
    subst E
    go_enter Try.func14, Try.ntmps14
    go_wp2
    refine bodyPost_ret (v := .agg #[.int .i64 2, .slice none 0 0]) (by simp [results, Try.results14, go_sem]) rfl ?_
    obtain ⟨F, hF⟩ := tabRR_nil (w.alloc (.cells #[.int .i64 2, .slice none 0 0] 28)) w.heap.size 2
    exact ⟨_, rfl, ⟨F, hF⟩, by (repeat (first | exact Below.refl _ _ | assumption | refine Below.drew ?_ | refine balloc ?_ _ | refine bset ?_ (by simp; omega) _ | refine bset ?_ (by simp) _ | refine bstep ?_ (by assumption)))⟩
  · have hi8 : decide ((8 : Int) < n) = false := decide_eq_false (by omega)
    have hi9 : ¬ ((8 : Int) < n) := by omega
    have HDF2 := HDF.out h8
    have HDF : Hid (∀ k, k < n → (∀ j, j < k → tabF (xss.getD j default) = 0) → tabF (xss.getD k default) ≠ 0 → D = ⟨tabF (xss.getD k default), []⟩) := HDF2
    clear HDF2
    go_enter Try.func14, Try.ntmps14
    go_wp2
    go_loopw [3] (fun i W => ∃ k : Nat, k ≤ n ∧ i = .int .i64 k ∧ Hid (∀ j, j < k → tabF (xss.getD j default) = 0) ∧ W.cell? ⟨w.heap.size, 0, none⟩ = some (.int .i64 0) ∧ W.cell? ⟨w.heap.size, 1, none⟩ = some (.slice none 0 0) ∧ (∀ o, W.frozen? ⟨w.heap.size, o, none⟩ = false) ∧ w.heap.size < W.heap.size ∧ Below w.heap.size w W) (fun i _ => n - (intOf i).toNat)
    case atStart => exact ⟨0, Nat.zero_le _, rfl, fun j h => absurd h (Nat.not_lt_zero _), by simp [go_sem], by simp [go_sem], fun o => by simp [go_sem], by simp, balloc (Below.refl _ _) _⟩
    case round =>
      obtain ⟨k, hk, rfl, HZ, b0, b1, bf, bz, hbl⟩ := hrel
      have hi4 : (0 : Int) ≤ k := by omega
      by_cases hlt : k < n
      · obtain ⟨b, o, u, rfl, _, hc, hu⟩ := hx k hlt
        have g0 : wr.cell? ⟨b, o + k, none⟩ = some u := cell_keep hbl (cells1 hc)
        have hX := RowsV_below hu.1 hbl
        have hi5 : (k : Int) < n := by omega
        clear hc hu hx
        have hXf := hX
        obtain ⟨au, cu, rfl, _⟩ := hXf
        have hC := specTableFault_any _ (xss.getD k default) wr hX
        obtain ⟨m, hm⟩ : ∃ m, (xss.getD k default).length = m := ⟨_, rfl⟩
        rw [hm] at hC g0
        clear hm hX
        obtain ⟨T, hT⟩ : ∃ T, tabF (xss.getD k default) = T := ⟨_, rfl⟩
        have HT : Hid (tabF (xss.getD k default) = T) := hT
        rw [hT] at hC
        clear hT
        go_wp2_with fail
        refine hC.mono ?_
        rintro e w1 ⟨rfl, hb1⟩
        have hB1 := bstep hbl hb1
        have q0 := cell_keep hb1 b0
        have q1 := cell_keep hb1 b1
        have qf := boxKeep ⟨bf, bz⟩ hb1
        clear hC
        by_cases h0 : T = 0
        · subst h0
          go_wp2
          refine ⟨⟨k + 1, by omega, by go_num, fun j hj => ?_, q0, q1, qf.1, qf.2, hB1⟩, by simp [intOf]; omega⟩
          by_cases h : j < k
          · exact HZ.out j h
          · have : j = k := by omega
            subst this
            exact HT.out
        · have h0' : (T == 0) = false := by rw [beq_eq_false_iff_ne]; exact h0
          have E := HDF.out k hlt HZ.out (by rw [HT.out]; exact h0)
          rw [HT.out] at E
          have HE : Hid (D = ⟨T, []⟩) := E
          clear E
          have qf1 := qf.1
          go_wp2
          refine bodyPost_ret (v := .agg #[.int .i64 T, .slice none 0 0]) (by simp [results, Try.results14, go_sem, q0, q1]) rfl ?_
          obtain ⟨F, hF⟩ := tabRR_nil ((w1.setCell ⟨w.heap.size, 0, none⟩ (.int .i64 T)).setCell ⟨w.heap.size, 1, none⟩ (.slice none 0 0)) w.heap.size T
          rw [HE.out]
          first | exact ⟨_, F, rfl, hF, by (repeat (first | exact Below.refl _ _ | assumption | refine Below.drew ?_ | refine balloc ?_ _ | refine bset ?_ (by simp; omega) _ | refine bset ?_ (by simp) _ | refine bstep ?_ (by assumption)))⟩ | exact ⟨_, rfl, ⟨F, hF⟩, by (repeat (first | exact Below.refl _ _ | assumption | refine Below.drew ?_ | refine balloc ?_ _ | refine bset ?_ (by simp; omega) _ | refine bset ?_ (by simp) _ | refine bstep ?_ (by assumption)))⟩
      · obtain rfl : k = n := by omega
        have hi5 : ¬ ((k : Int) < k) := by omega
        have HE := HDM.out h8 (fun j hj => HZ.out j hj)
        have hTL := HTL.out h8 (fun j hj => HZ.out j hj)
        have hC := l5Merge_any (.slice ax k cx) xss wr (rowssR.below HX.out hbl) (by rw [HNN.out]; exact hTL)
        have hM : putsL [] (flatTo (fun i => xss.getD i default) xss.length) = mergeL xss := rfl
        rw [hM] at hC
        have HE2 : Hid (D = if 200 < (mergeL xss).length then ⟨2, []⟩ else ⟨0, mergeL xss⟩) := HE
        clear HE hTL hM
        generalize mergeL xss = ys at *
        obtain ⟨L, hL⟩ : ∃ L, ys.length = L := ⟨_, rfl⟩
        rw [hL] at HE2
        go_wp2_with fail
        refine hC.mono ?_
        rintro e w1 ⟨v, rfl, ⟨⟨g, c, rfl⟩, ho⟩, hb1⟩
        rw [hL] at ho ⊢
        have HL : Hid (ys.length = L) := hL
        clear hL hC
        have hB1 := bstep hbl hb1
        have q0 := cell_keep hb1 b0
        have q1 := cell_keep hb1 b1
        have qf := boxKeep ⟨bf, bz⟩ hb1
        have qf1 := qf.1
        have hbz := hbl.size
        have hLm : L ≤ 9223372036854775807 := by
          rcases ho.2 with ⟨_, h⟩ | ⟨_, cap, _, _, _, _, h1, h2, _⟩
          · omega
          · unfold maxLen at h2; omega
        by_cases h2 : 200 < L
        · have hi7 : (200 : Int) < L := by omega
          have HE : Hid (D = ⟨2, []⟩) := by rw [Hid, HE2.out, if_pos h2]
          go_wp2
          refine bodyPost_ret (v := .agg #[.int .i64 2, .slice none 0 0]) (by simp [results, Try.results14, go_sem, q0, q1]) rfl ?_
          obtain ⟨F, hF⟩ := tabRR_nil ((w1.setCell ⟨w.heap.size, 0, none⟩ (.int .i64 2)).setCell ⟨w.heap.size, 1, none⟩ (.slice none 0 0)) w.heap.size 2
          rw [HE.out]
          first | exact ⟨_, F, rfl, hF, by (repeat (first | exact Below.refl _ _ | assumption | refine Below.drew ?_ | refine balloc ?_ _ | refine bset ?_ (by simp; omega) _ | refine bset ?_ (by simp) _ | refine bstep ?_ (by assumption)))⟩ | exact ⟨_, rfl, ⟨F, hF⟩, by (repeat (first | exact Below.refl _ _ | assumption | refine Below.drew ?_ | refine balloc ?_ _ | refine bset ?_ (by simp; omega) _ | refine bset ?_ (by simp) _ | refine bstep ?_ (by assumption)))⟩
        · have hi7 : ¬ ((200 : Int) < L) := by omega
          have HE : Hid (D = ⟨0, ys⟩) := by rw [Hid, HE2.out, if_neg h2]
          go_wp2
          refine bodyPost_ret (v := .agg #[.int .i64 0, .slice (some ⟨g, 0, none⟩) L c]) (by simp [results, Try.results14, go_sem, q0, q1]) rfl ?_
          have hg : w.heap.size < g := by have := (ho.lt g rfl).1; omega
          have ho2 : ((w1.setCell ⟨w.heap.size, 0, none⟩ (.int .i64 0)).setCell ⟨w.heap.size, 1, none⟩ (.slice (some ⟨g, 0, none⟩) L c)).ownsRow w.heap.size 32 4 (.slice (some ⟨g, 0, none⟩) ys.length c) ys.length (rwsC ys) := by
            rw [HL.out]
            exact owns_base (owns_setCell (owns_setCell ho (by dsimp only; omega) _) (by dsimp only; omega) _) (by omega)
          obtain ⟨F, hF⟩ := tabRR_of (c := 0) ho2 HN.out
          rw [HL.out] at hF
          rw [HE.out]
          first | exact ⟨_, F, rfl, hF, by (repeat (first | exact Below.refl _ _ | assumption | refine Below.drew ?_ | refine balloc ?_ _ | refine bset ?_ (by simp; omega) _ | refine bset ?_ (by simp) _ | refine bstep ?_ (by assumption)))⟩ | exact ⟨_, rfl, ⟨F, hF⟩, by (repeat (first | exact Below.refl _ _ | assumption | refine Below.drew ?_ | refine balloc ?_ _ | refine bset ?_ (by simp; omega) _ | refine bset ?_ (by simp) _ | refine bstep ?_ (by assumption)))⟩

end Go.Proofs.Ytdfapehonegeeaa
