import Derived.Test.YteebglgbeijolaaPrnCompactsLaw11
import Derived.Test.YteebglgbeijolaaPrnCompactsLaw10
import Derived.BigQuiet
import Derived.Maps.AppendAt
import Derived.Test.YteebglgbeijolaaPrnCompactsLaw8
import Derived.Laws.CopyRow
import Derived.Laws.Externs
import Derived.Lib.Overlaps
import Derived.Lib.AppendZerosOnto
import Derived.Deep.RegionLaw

/-
  What is made compact reads alike, what is merged has all rows: in mathematics.
-/
namespace Go.Proofs.Yteebglgbeijolaa
open Go.RowKit
set_option linter.unusedSectionVars false
variable [DecidableEq Rw] [Inhabited Rw] [DecidableEq TabR] [Inhabited TabR]
set_option linter.unusedVariables false
set_option linter.unusedSimpArgs false

theorem tabF_rises {xs : List Rw} (hr : Rises xs) (hf : ∀ x ∈ xs, rowFault x = 0) (hl : xs.length ≤ 200) : tabF xs = 0 := by
  refine tabF_zero hl (fun j hj => ?_)
  unfold tabAt
  have e : xs.getD j default = xs[j] := by simp [List.getD, hj]
  rw [if_neg (by rw [e]; simpa using hf _ (List.getElem_mem hj)), if_neg]
  rintro ⟨h0, h1⟩
  have e2 : xs.getD (j - 1) default = xs[j - 1]'(by omega) := by simp [List.getD, show j - 1 < xs.length by omega]
  rw [e, e2] at h1
  have h2 := List.pairwise_iff_getElem.1 hr (j - 1) j (by omega) hj (by omega)
  rw [h2] at h1
  cases h1
theorem getAt_iff {k : ByteArray} {u : Int} : ∀ {xs : List Rw}, Rises xs → ∀ r, getAt xs k u = some r ↔ r ∈ xs ∧ r.key = k ∧ r.ver ≤ u ∧ ∀ z ∈ xs, z.key = k → z.ver ≤ u → z.ver ≤ r.ver
  | [], _, r => by simp [getAt]
  | x :: xs, hr, r => by
    unfold Rises at hr
    rw [List.pairwise_cons] at hr
    unfold getAt
    by_cases h : x.key = k ∧ x.ver ≤ u
    · rw [List.find?_cons_of_pos (by simpa using h)]
      constructor
      · intro e
        have e' : x = r := by simpa using e
        subst e'
        refine ⟨List.mem_cons_self .., h.1, h.2, fun z hz hk hv => ?_⟩
        rcases List.mem_cons.1 hz with rfl | hz
        · omega
        · have := (ahead_same (h.1.trans hk.symm)).1 (hr.1 z hz)
          omega
      · rintro ⟨a, b, c, d⟩
        rcases List.mem_cons.1 a with rfl | a
        · rfl
        · have h1 := (ahead_same (h.1.trans b.symm)).1 (hr.1 r a)
          have h2 := d x (List.mem_cons_self ..) h.1 h.2
          omega
    · rw [List.find?_cons_of_neg (by simpa using h)]
      have ih := getAt_iff (k := k) (u := u) hr.2 r
      unfold getAt at ih
      rw [ih]
      constructor
      · rintro ⟨a, b, c, d⟩
        refine ⟨List.mem_cons_of_mem _ a, b, c, fun z hz hk hv => ?_⟩
        rcases List.mem_cons.1 hz with rfl | hz
        · exact absurd ⟨hk, hv⟩ h
        · exact d z hz hk hv
      · rintro ⟨a, b, c, d⟩
        rcases List.mem_cons.1 a with rfl | a
        · exact absurd ⟨b, c⟩ h
        · exact ⟨a, b, c, fun z hz => d z (List.mem_cons_of_mem _ hz)⟩
theorem compL_mem {xs : List Rw} {v : Int} {x : Rw} : x ∈ compL xs v ↔ x ∈ xs ∧ shad xs v x = false ∧ ¬ (x.gone = true ∧ x.ver ≤ v) := by
  unfold compL
  rw [List.mem_filter, List.mem_filter]
  constructor
  · rintro ⟨⟨a, b⟩, c⟩
    refine ⟨a, by simpa using b, fun h => ?_⟩
    simp [h.1, h.2] at c
  · rintro ⟨a, b, c⟩
    refine ⟨⟨a, by simpa using b⟩, ?_⟩
    cases hg : x.gone
    · simp
    · simp only [Bool.true_and, Bool.not_eq_true', decide_eq_false_iff_not]
      exact fun h => c ⟨hg, h⟩
theorem compL_rises {xs : List Rw} (h : Rises xs) (v : Int) : Rises (compL xs v) := List.Pairwise.sublist (compL_sub xs v) h
theorem compL_get {xs : List Rw} (hr : Rises xs) {v u : Int} (huv : v ≤ u) (k : ByteArray) : getRow (compL xs v) k u = getRow xs k u := by
  unfold getRow
  have hsh : ∀ r : Rw, (∀ z ∈ xs, z.key = r.key → z.ver ≤ u → z.ver ≤ r.ver) → shad xs v r = false := fun r h => by
    rw [← Bool.not_eq_true, shad_iff]
    rintro ⟨y, hy, e1, e2, e3⟩
    have := h y hy e1 (by omega)
    omega
  cases hg : getAt xs k u with
  | none =>
    have : getAt (compL xs v) k u = none := by
      unfold getAt at hg ⊢
      rw [List.find?_eq_none] at hg ⊢
      exact fun y hy => hg y ((compL_sub xs v).subset hy)
    rw [this]
  | some r =>
    obtain ⟨a, b, c, d⟩ := (getAt_iff hr r).1 hg
    have hs := hsh r (fun z hz hk hv => d z hz (hk.trans b) hv)
    by_cases hgo : r.gone = true ∧ r.ver ≤ v
    · have : getAt (compL xs v) k u = none := by
        unfold getAt
        rw [List.find?_eq_none]
        intro y hy hP
        simp only [decide_eq_true_eq] at hP
        obtain ⟨hy1, hy2, hy3⟩ := compL_mem.1 hy
        have hle := d y hy1 hP.1 hP.2
        by_cases e : y.ver = r.ver
        · have : y = r := rises_mem hr hy1 a (hP.1.trans b.symm) e
          subst this
          exact hy3 hgo
        · rw [← Bool.not_eq_true, shad_iff] at hy2
          exact hy2 ⟨r, a, b.trans hP.1.symm, by omega, hgo.2⟩
      rw [this]
      simp [Option.filter, hgo.1]
    · have : getAt (compL xs v) k u = some r := (getAt_iff (compL_rises hr v) r).2 ⟨compL_mem.2 ⟨a, hs, hgo⟩, b, c, fun z hz => d z ((compL_sub xs v).subset hz)⟩
      rw [this]
theorem compL_tab {xs : List Rw} (h : tabF xs = 0) (v : Int) : tabF (compL xs v) = 0 :=
  tabF_rises (compL_rises (rises_of h) v) (fun x hx => tab_small h x ((compL_sub xs v).subset hx)) (Nat.le_trans (compL_sub xs v).length_le (tabF_all h).1)
theorem compL_code {xs : List Rw} (h : tabF xs = 0) {v u : Int} (huv : v ≤ u) (k : ByteArray) : getCode (compL xs v) k u = getCode xs k u ∧ getText (compL xs v) k u = getText xs k u := by
  unfold getCode getText
  rw [if_pos h, if_pos (compL_tab h v), if_pos h, if_pos (compL_tab h v), compL_get (rises_of h) huv]
  exact ⟨rfl, rfl⟩
end Go.Proofs.Yteebglgbeijolaa

/-
  The specification's CompactTable.
-/
namespace Go.Proofs.Yteebglgbeijolaa
open Go.RowKit
set_option linter.unusedSectionVars false
variable [DecidableEq Rw] [Inhabited Rw] [DecidableEq TabR] [Inhabited TabR]
set_option linter.unusedVariables false
set_option linter.unusedSimpArgs false
attribute [local go_sem ↓] Go.wp_at_zero Go.wp_at_succ

def shY (v : Int) (x y : Rw) : Bool := decide (y.key = x.key) && decide (y.ver ≤ v)
theorem shad_at {xs : List Rw} (hr : Rises xs) {i : Nat} (hi : i < xs.length) (v : Int) : (xs.take i).any (shY v (xs.getD i default)) = shad xs v (xs.getD i default) := by
  have hx : xs.getD i default = xs[i] := by simp [List.getD, hi]
  rw [hx]
  unfold Rises at hr
  rw [List.pairwise_iff_getElem] at hr
  rw [Bool.eq_iff_iff, shad_iff]
  simp only [List.any_eq_true, shY, Bool.and_eq_true, decide_eq_true_eq]
  constructor
  · rintro ⟨y, hy, hk, hv⟩
    obtain ⟨j, hj, rfl⟩ := List.mem_iff_getElem.1 hy
    rw [List.length_take] at hj
    rw [List.getElem_take] at hk hv
    have h1 := hr j i (by omega) hi (by omega)
    exact ⟨_, List.getElem_mem _, hk, (ahead_same hk).1 h1, hv⟩
  · rintro ⟨y, hy, hk, hlt, hv⟩
    obtain ⟨j, hj, rfl⟩ := List.mem_iff_getElem.1 hy
    rcases Nat.lt_trichotomy j i with h | h | h
    · refine ⟨xs[j], List.mem_iff_getElem.2 ⟨j, by rw [List.length_take]; omega, by rw [List.getElem_take]⟩, hk, hv⟩
    · subst h; omega
    · have h1 := (ahead_same hk.symm).1 (hr i j hi hj h)
      omega
def keptTo (xs : List Rw) (v : Int) (i : Nat) : List Rw := (xs.take i).filter (fun x => !shad xs v x)
theorem keptTo_yes {xs : List Rw} {v : Int} {i : Nat} (hi : i < xs.length) (h : shad xs v (xs.getD i default) = false) : keptTo xs v (i + 1) = keptTo xs v i ++ [xs.getD i default] := by
  unfold keptTo
  rw [← take_snoc xs hi, List.filter_append]
  simp only [List.filter_cons, List.filter_nil, h]
  rfl
theorem keptTo_no {xs : List Rw} {v : Int} {i : Nat} (hi : i < xs.length) (h : shad xs v (xs.getD i default) = true) : keptTo xs v (i + 1) = keptTo xs v i := by
  unfold keptTo
  rw [← take_snoc xs hi, List.filter_append]
  simp only [List.filter_cons, List.filter_nil, h]
  simp
theorem keptTo_all (xs : List Rw) (v : Int) : keptTo xs v xs.length = xs.filter (fun x => !shad xs v x) := by unfold keptTo; rw [List.take_length]
theorem keptTo_len (xs : List Rw) (v : Int) (i : Nat) : (keptTo xs v i).length ≤ i := by
  have h1 := List.length_filter_le (fun x => !shad xs v x) (xs.take i)
  have h2 := List.length_take_le i xs
  unfold keptTo
  omega
def leftTo (ks : List Rw) (v : Int) (j : Nat) : List Rw := (ks.take j).filter (fun x => !(x.gone && decide (x.ver ≤ v)))
theorem leftTo_yes {ks : List Rw} {v : Int} {j : Nat} (hj : j < ks.length) (h : ((ks.getD j default).gone && decide ((ks.getD j default).ver ≤ v)) = false) : leftTo ks v (j + 1) = leftTo ks v j ++ [ks.getD j default] := by
  unfold leftTo
  rw [← take_snoc ks hj, List.filter_append]
  simp only [List.filter_cons, List.filter_nil, h]
  rfl
theorem leftTo_no {ks : List Rw} {v : Int} {j : Nat} (hj : j < ks.length) (h : ((ks.getD j default).gone && decide ((ks.getD j default).ver ≤ v)) = true) : leftTo ks v (j + 1) = leftTo ks v j := by
  unfold leftTo
  rw [← take_snoc ks hj, List.filter_append]
  simp only [List.filter_cons, List.filter_nil, h]
  simp
theorem leftTo_len (ks : List Rw) (v : Int) (j : Nat) : (leftTo ks v j).length ≤ j := by
  have h1 := List.length_filter_le (fun x => !(x.gone && decide (x.ver ≤ v))) (ks.take j)
  have h2 := List.length_take_le j ks
  unfold leftTo
  omega
theorem kept_last {xs : List Rw} (hr : Rises xs) {v : Int} {i : Nat} {ks : List Rw} (hk : ks = xs.filter (fun x => !shad xs v x)) (hi : i + 1 < ks.length) (hv : (ks.getD i default).ver ≤ v) : (ks.getD (i + 1) default).key ≠ (ks.getD i default).key := by
  intro e
  have hrk : Rises ks := by rw [hk]; exact List.Pairwise.filter _ hr
  unfold Rises at hrk
  rw [List.pairwise_iff_getElem] at hrk
  have h1 := hrk i (i + 1) (by omega) hi (by omega)
  have e1 : ks.getD i default = ks[i] := by simp [List.getD, show i < ks.length by omega]
  have e2 : ks.getD (i + 1) default = ks[i + 1] := by simp [List.getD, hi]
  rw [e1] at hv e
  rw [e2] at e
  have h2 := (ahead_same e.symm).1 h1
  have m1 : ks[i] ∈ ks := List.getElem_mem _
  have m2 : ks[i + 1] ∈ ks := List.getElem_mem _
  have m1' : ks[i] ∈ xs := by
    have : ks[i] ∈ xs.filter (fun x => !shad xs v x) := hk ▸ m1
    exact (List.mem_filter.1 this).1
  have m2' : shad xs v ks[i + 1] = false := by
    have : ks[i + 1] ∈ xs.filter (fun x => !shad xs v x) := hk ▸ m2
    simpa using (List.mem_filter.1 this).2
  have : shad xs v ks[i + 1] = true := (shad_iff xs v _).2 ⟨ks[i], m1', e.symm, h2, hv⟩
  rw [m2'] at this
  cases this
theorem any_take {xs : List Rw} (p : Rw → Bool) {k : Nat} (hk : k < xs.length) : (xs.take (k + 1)).any p = ((xs.take k).any p || p (xs.getD k default)) := by
  rw [← take_snoc xs hk, List.any_append]
  simp
set_option maxRecDepth 100000 in
set_option maxHeartbeats 8000000 in
theorem l5Compact_any (x : Value) (xs : List Rw) (v : Int) (w : World) (hx : RowsV w x xs) (hr : Rises xs) (hn : xs.length ≤ 200) :
    Calls Try.prog 85 #[x, .int .i64 v] w fun e w' => ∃ u, e = .returned u ∧ OutS w' w.heap.size u (compL xs v) ∧ Below w.heap.size w w' := by
  obtain ⟨i0, hi0, hz0, hz1, hz2⟩ := info_parts infoRw
  obtain ⟨ax, cx, rfl, hcx, hmx, hx⟩ := hx
  unfold maxLen at hmx
  have HSH : Hid (∀ i, i < xs.length → (xs.take i).any (shY v (xs.getD i default)) = shad xs v (xs.getD i default)) := fun i hi => shad_at hr hi v
  have HKY : Hid (∀ i, i < xs.length → shad xs v (xs.getD i default) = false → keptTo xs v (i + 1) = keptTo xs v i ++ [xs.getD i default]) := fun i hi h => keptTo_yes hi h
  have HKN : Hid (∀ i, i < xs.length → shad xs v (xs.getD i default) = true → keptTo xs v (i + 1) = keptTo xs v i) := fun i hi h => keptTo_no hi h
  have HAT : Hid (∀ q k, k < xs.length → (xs.take (k + 1)).any (shY v q) = ((xs.take k).any (shY v q) || shY v q (xs.getD k default))) := fun q k hk => any_take _ hk
  have HKL : Hid (∀ i, (keptTo xs v i).length ≤ i) := keptTo_len xs v
  have HKA : Hid (keptTo xs v xs.length = xs.filter (fun x => !shad xs v x)) := keptTo_all xs v
  have HLA : Hid (∀ i, i + 1 < (keptTo xs v xs.length).length → ((keptTo xs v xs.length).getD i default).ver ≤ v → ((keptTo xs v xs.length).getD (i + 1) default).key ≠ ((keptTo xs v xs.length).getD i default).key) := fun i hi hv => kept_last hr (keptTo_all xs v) hi hv
  clear hr
  generalize hN : xs.length = n at *
  have HN : Hid (xs.length = n) := hN
  clear hN
  go_enter Try.func85, Try.ntmps85
  go_wp2
  go_loopw [5, 6] (fun o i W => ∃ k : Nat, k ≤ n ∧ i = .int .i64 k ∧ Hid (OutS W w.heap.size o (keptTo xs v k)) ∧ Below w.heap.size w W) (fun _ i _ => n - (intOf i).toNat)
  case atStart =>
    refine ⟨0, Nat.zero_le _, rfl, ⟨⟨w.heap.size, 0, rfl⟩, ?_⟩, balloc (Below.refl _ _) _⟩
    exact World.ownsRow_lit (base := w.heap.size) (e := 61) (size := 4) w #[] 0 (Nat.le_refl _) (by unfold maxLen; omega) rfl
  case round =>
    obtain ⟨k, hk, rfl, HO, hbl⟩ := hrel
    have hi4 : (0 : Int) ≤ k := by omega
    by_cases hlt : k < n
    · obtain ⟨b, o, rfl, hc⟩ := hx k hlt
      obtain ⟨l, hl⟩ : ∃ l, xs.getD k default = l := ⟨_, rfl⟩
      have HL : Hid (xs.getD k default = l) := hl
      rw [hl] at hc
      have hi5 : (k : Int) < n := by omega
      have HX : Hid (∀ i, i < n → rowCells w b (o + i * 4) (xs.getD i default)) := fun i hi => by
        obtain ⟨b', o', e, h⟩ := hx i hi
        simp only [Option.some.injEq, Addr.mk.injEq, and_true] at e
        obtain ⟨rfl, rfl⟩ := e
        exact h
      clear hx hl
      have hO := HO.out.1
      obtain ⟨g, c, rfl⟩ := hO
      obtain ⟨N1, hN1⟩ : ∃ N1, (keptTo xs v k).length = N1 := ⟨_, rfl⟩
      have HN1 : Hid ((keptTo xs v k).length = N1) := hN1
      rw [hN1] at HO ⊢
      clear hN1
      go_wp2
      go_loopw [7, 8] (fun s j W => ∃ q : Nat, q ≤ k ∧ j = .int .i64 q ∧ s = .bool ((xs.take q).any (shY v l)) ∧ Hid (OutS W w.heap.size (.slice (some ⟨g, 0, none⟩) N1 c) (keptTo xs v k)) ∧ Below w.heap.size w W) (fun _ j _ => k - (intOf j).toNat)
      case atStart => exact ⟨0, Nat.zero_le _, rfl, rfl, HO, hbl⟩
      case round =>
        obtain ⟨q, hq, rfl, rfl, HO2, hbl2⟩ := hrel
        have hj4 : (0 : Int) ≤ q := by omega
        by_cases hql : q < k
        · have hj5 : (q : Int) < k := by omega
          have hj6 : (q : Int) < n := by omega
          have r1 := rowCells_below hbl2 hc
          have r2 := rowCells_below hbl2 (HX.out q (by omega))
          have HT := HAT.out l q (by omega)
          obtain ⟨m, hm⟩ : ∃ m, xs.getD q default = m := ⟨_, rfl⟩
          rw [hm] at r2 HT
          clear hm
          obtain ⟨s, hs⟩ : ∃ s, (xs.take q).any (shY v l) = s := ⟨_, rfl⟩
          rw [hs] at HT ⊢
          have HT2 : Hid ((xs.take (q + 1)).any (shY v l) = (s || shY v l m)) := HT
          clear HT hs
          obtain ⟨p0, p1, p2, p3⟩ := r1
          obtain ⟨t0, t1, t2, t3⟩ := r2
          cases s with
          | true =>
            go_wp2
            go_quiet (fail)
            have hbN : Below w.heap.size w (wr.drewN nq) := bdrN hbl2 nq
            have HON : Hid (OutS (wr.drewN nq) w.heap.size (.slice (some ⟨g, 0, none⟩) N1 c) (keptTo xs v k)) := HO2.out.below (bdrN (Below.refl _ _) nq)
            generalize wr.drewN nq = wq at *
            go_wp2
            refine ⟨⟨q + 1, by omega, by go_num, ?_, HON, hbN⟩, by simp [intOf]; omega⟩
            rw [HT2.out]
            rfl
          | false =>
            by_cases hkey : m.key = l.key
            · have hd1 : (m.key.toList == l.key.toList) = true := by rw [hkey]; simp
              by_cases hver : m.ver ≤ v
              all_goals
                first
                  | have hd2 : decide (m.ver ≤ v) = true := decide_eq_true hver
                  | have hd2 : decide (m.ver ≤ v) = false := decide_eq_false hver
                have HS : Hid (shY v l m = decide (m.ver ≤ v)) := by rw [Hid]; unfold shY; rw [decide_eq_true hkey, Bool.true_and]
                rw [hd2] at HS
                go_wp2
                go_quiet (fail)
                have hbN : Below w.heap.size w (wr.drewN nq) := bdrN hbl2 nq
                have HON : Hid (OutS (wr.drewN nq) w.heap.size (.slice (some ⟨g, 0, none⟩) N1 c) (keptTo xs v k)) := HO2.out.below (bdrN (Below.refl _ _) nq)
                generalize wr.drewN nq = wq at *
                go_wp2
                refine ⟨⟨q + 1, by omega, by go_num, ?_, HON, hbN⟩, by simp [intOf]; omega⟩
                rw [HT2.out, HS.out]
                rfl
            · have hd1 : (m.key.toList == l.key.toList) = false := by rw [beq_eq_false_iff_ne, Ne, tl_inj]; exact hkey
              have hd3 : ¬ m.key.toList = l.key.toList := by rw [tl_inj]; exact hkey
              have HS : Hid (shY v l m = false) := by rw [Hid]; unfold shY; rw [decide_eq_false hkey, Bool.false_and]
              go_wp2
              go_quiet (fail)
              have hbN : Below w.heap.size w (wr.drewN nq) := bdrN hbl2 nq
              have HON : Hid (OutS (wr.drewN nq) w.heap.size (.slice (some ⟨g, 0, none⟩) N1 c) (keptTo xs v k)) := HO2.out.below (bdrN (Below.refl _ _) nq)
              generalize wr.drewN nq = wq at *
              go_wp2
              refine ⟨⟨q + 1, by omega, by go_num, ?_, HON, hbN⟩, by simp [intOf]; omega⟩
              rw [HT2.out, HS.out]
              rfl
        · obtain rfl : q = k := by omega
          have hj5 : ¬ ((q : Int) < q) := by omega
          have hj6 : (q : Int) < n := by omega
          have HSQ := HSH.out q hlt
          rw [HL.out] at HSQ
          rw [HSQ]
          obtain ⟨s, hs⟩ : ∃ s, shad xs v l = s := ⟨_, rfl⟩
          have HKYq := HKY.out q hlt
          have HKNq := HKN.out q hlt
          rw [HL.out, hs] at HKYq HKNq
          rw [hs]
          clear hs HSQ
          cases s with
          | true =>
            have HE : Hid (keptTo xs v (q + 1) = keptTo xs v q) := HKNq rfl
            clear HKYq HKNq
            go_wp2
            refine ⟨⟨q + 1, by omega, by go_num, ?_, hbl2⟩, by simp [intOf]; omega⟩
            rw [HE.out]
            exact HO2
          | false =>
            have HE : Hid (keptTo xs v (q + 1) = keptTo xs v q ++ [l]) := HKYq rfl
            clear HKYq HKNq
            obtain ⟨p0, p1, p2, p3⟩ := rowCells_below hbl2 hc
            have hO2 := HO2.out.2
            rw [HN1.out] at hO2
            have hbs := hbl2.size
            have hN2 := HKL.out q
            rw [HN1.out] at hN2
            go_wp2_with (at_builtin; refine wpList_append_own_at _ rfl _ _ 55 rfl w.heap.size 61 i0 _ 4 48 Try.underlying55 hi0 hz0 hz1 hz2 rfl (by decide) _ N1 (rwsC (keptTo xs v q)) rfl (hO2.alloc _) ⟨wr.heap.size, 0, none⟩ 1 1 (rowC l) rfl rfl ?c1 (rowC_one l) ?c3 ?c4 ?c5 ?_)
            case c1 =>
              exact fun j u h => h
            case c3 => unfold maxLen; omega
            case c4 => omega
            case c5 => first | omega | (simp; omega)
            intro v' w5 o5 g5 _ _
            have hbA : Below w.heap.size w (wr.alloc (.cells #[.string l.key, .int .i64 l.ver, .string l.val, .bool l.gone] 61)) := balloc hbl2 _
            have hB5 : Below w.heap.size w w5 := hbA.grown g5 hbA.size (fun b hb => (hO2.lt b hb).1)
            obtain ⟨g', cap', rfl⟩ := ownsRow_succ o5
            have HO5 : Hid (OutS w5 w.heap.size (.slice (some ⟨g', 0, none⟩) (N1 + 1) cap') (keptTo xs v (q + 1))) := by
              have hl : (keptTo xs v q ++ [l]).length = N1 + 1 := by rw [List.length_append, HN1.out]; rfl
              rw [Hid, HE.out]
              refine ⟨⟨g', cap', by rw [hl]⟩, ?_⟩
              rw [hl, rwsC_snoc]
              exact o5
            clear o5 g5
            go_wp2
            exact ⟨⟨q + 1, by omega, by go_num, HO5, hB5⟩, by simp [intOf]; omega⟩
    · obtain rfl : k = n := by omega
      have hi5 : ¬ ((k : Int) < k) := by omega
      have hO := HO.out.1
      obtain ⟨g, c, rfl⟩ := hO
      have HCL : Hid (leftTo (keptTo xs v k) v (keptTo xs v k).length = compL xs v) := by
        rw [Hid]
        unfold leftTo compL
        rw [List.take_length, HKA.out]
      have hN2 := HKL.out k
      obtain ⟨ks, hks⟩ : ∃ ks, keptTo xs v k = ks := ⟨_, rfl⟩
      rw [hks] at HO HCL HLA hN2 ⊢
      clear hks HKA HKL HKY HKN HSH HAT hx
      have HLY : Hid (∀ j, j < ks.length → ((ks.getD j default).gone && decide ((ks.getD j default).ver ≤ v)) = false → leftTo ks v (j + 1) = leftTo ks v j ++ [ks.getD j default]) := fun j hj h => leftTo_yes hj h
      have HLN : Hid (∀ j, j < ks.length → ((ks.getD j default).gone && decide ((ks.getD j default).ver ≤ v)) = true → leftTo ks v (j + 1) = leftTo ks v j) := fun j hj h => leftTo_no hj h
      have HLL : Hid (∀ j, (leftTo ks v j).length ≤ j) := leftTo_len ks v
      have hKV : RowsV wr (.slice (some ⟨g, 0, none⟩) ks.length c) ks := RowsV_of_owns HO.out.2
      obtain ⟨a', c', e', hc1, hc2, hrow⟩ := hKV
      simp only [Value.slice.injEq] at e'
      obtain ⟨rfl, _, rfl⟩ := e'
      unfold maxLen at hc2
      generalize hN3 : ks.length = m at *
      have HM : Hid (ks.length = m) := hN3
      clear hN3
      have hbs := hbl.size
      obtain ⟨w3, rfl⟩ : ∃ w3, w3 = wr := ⟨_, rfl⟩
      go_wp2
      go_loopw [9, 10] (fun o i W => ∃ j : Nat, j ≤ m ∧ i = .int .i64 j ∧ Hid (OutS W w3.heap.size o (leftTo ks v j)) ∧ Below w3.heap.size w3 W) (fun _ i _ => m - (intOf i).toNat)
      case atStart =>
        refine ⟨0, Nat.zero_le _, rfl, ⟨⟨w3.heap.size, 0, rfl⟩, ?_⟩, balloc (Below.refl _ _) _⟩
        exact World.ownsRow_lit (base := w3.heap.size) (e := 61) (size := 4) w3 #[] 0 (Nat.le_refl _) (by unfold maxLen; omega) rfl
      case round =>
        obtain ⟨j, hj, rfl, HO3, hbl3⟩ := hrel
        have hj4 : (0 : Int) ≤ j := by omega
        have hO3 := HO3.out.1
        obtain ⟨g3, c3, rfl⟩ := hO3
        obtain ⟨N3, hN3⟩ : ∃ N3, (leftTo ks v j).length = N3 := ⟨_, rfl⟩
        have HN3 : Hid ((leftTo ks v j).length = N3) := hN3
        rw [hN3] at HO3 ⊢
        clear hN3
        by_cases hjm : j < m
        · have hj5 : (j : Int) < m := by omega
          obtain ⟨b, o, ebo, hc⟩ := hrow j hjm
          simp only [Option.some.injEq, Addr.mk.injEq, and_true] at ebo
          obtain ⟨rfl, rfl⟩ := ebo
          obtain ⟨l, hl⟩ : ∃ l, ks.getD j default = l := ⟨_, rfl⟩
          have HY := HLY.out j hjm
          have HNo := HLN.out j hjm
          have HA : Hid (∀ h : j + 1 < m, l.ver ≤ v → (ks.getD (j + 1) default).key ≠ l.key) := fun h hv => by
            rw [← hl] at hv ⊢
            exact HLA.out j h hv
          rw [hl] at hc HY HNo
          have HYY : Hid ((l.gone && decide (l.ver ≤ v)) = false → leftTo ks v (j + 1) = leftTo ks v j ++ [l]) := HY
          have HNN : Hid ((l.gone && decide (l.ver ≤ v)) = true → leftTo ks v (j + 1) = leftTo ks v j) := HNo
          clear HY HNo
          obtain ⟨p0, p1, p2, p3⟩ := rowCells_below hbl3 hc
          simp only [Nat.zero_add] at p0 p1 p2 p3
          have hk3 := HO3.out.2
          rw [HN3.out] at hk3
          have hN4 := HLL.out j
          rw [HN3.out] at hN4
          have hbs3 := hbl3.size
          by_cases hlast : j + 1 = m
          · obtain rfl : m = j + 1 := hlast.symm
            have hd1 : ((j : Int) == ((j + 1 : Nat) : Int) - 1) = true := by rw [beq_iff_eq]; omega
            go_wp2
            go_quiet (fail)
            have hbq : Below w3.heap.size w3 (wr.drewN nq) := bdrN hbl3 nq
            have hk3q : (wr.drewN nq).ownsRow w3.heap.size 61 4 (.slice (some ⟨g3, 0, none⟩) N3 c3) N3 (rwsC (leftTo ks v j)) := owns_below hk3 (bdrN (Below.refl _ _) nq)
            have z0 : (wr.drewN nq).cell? ⟨g, j * 4, none⟩ = some (.string l.key) := p0
            have z1 : (wr.drewN nq).cell? ⟨g, j * 4 + 1, none⟩ = some (.int .i64 l.ver) := p1
            have z2 : (wr.drewN nq).cell? ⟨g, j * 4 + 2, none⟩ = some (.string l.val) := p2
            have z3 : (wr.drewN nq).cell? ⟨g, j * 4 + 3, none⟩ = some (.bool l.gone) := p3
            have hbsq := hbq.size
            generalize wr.drewN nq = wq at *
            clear p0 p1 p2 p3
            cases hg : l.gone with
            | false =>
              have HE : Hid (leftTo ks v (j + 1) = leftTo ks v j ++ [l]) := HYY.out (by rw [hg]; rfl)
              rw [hg] at z3
              go_wp2_with (at_builtin; refine wpList_append_own_at _ rfl _ _ 55 rfl w3.heap.size 61 i0 _ 4 48 Try.underlying55 hi0 hz0 hz1 hz2 rfl (by decide) _ N3 (rwsC (leftTo ks v j)) rfl (hk3q.alloc _) ⟨wq.heap.size, 0, none⟩ 1 1 (rowC l) rfl rfl ?c1 (rowC_one l) ?c3 ?c4 ?c5 ?_)
              case c1 => first | exact fun j u h => h | (refine rowC_cells (b := wq.heap.size) (o := 0) ⟨?_, ?_, ?_, ?_⟩ <;> simp [go_sem, hg])
              case c3 => unfold maxLen; omega
              case c4 => omega
              case c5 => first | omega | (simp; omega)
              intro v' w5 o5 g5 _ _
              have hbA : Below w3.heap.size w3 (wq.alloc (.cells #[.string l.key, .int .i64 l.ver, .string l.val, .bool false] 61)) := balloc hbq _
              have hB5 : Below w3.heap.size w3 w5 := hbA.grown g5 hbA.size (fun b hb => (hk3.lt b hb).1)
              obtain ⟨g', cap', rfl⟩ := ownsRow_succ o5
              have HO5 : Hid (OutS w5 w3.heap.size (.slice (some ⟨g', 0, none⟩) (N3 + 1) cap') (leftTo ks v (j + 1))) := by
                have hl : (leftTo ks v j ++ [l]).length = N3 + 1 := by rw [List.length_append, HN3.out]; rfl
                rw [Hid, HE.out]
                refine ⟨⟨g', cap', by rw [hl]⟩, ?_⟩
                rw [hl, rwsC_snoc]
                exact o5
              clear o5 g5
              go_wp2
              exact ⟨⟨j + 1, by omega, by go_num, HO5, hB5⟩, by simp [intOf]; try omega⟩
            | true =>
              rw [hg] at z3
              by_cases hver : v < l.ver
              · have hdv : decide (v < l.ver) = true := decide_eq_true hver
                have HE : Hid (leftTo ks v (j + 1) = leftTo ks v j ++ [l]) := HYY.out (by rw [hg, decide_eq_false (by omega)]; rfl)
                go_wp2_with (at_builtin; refine wpList_append_own_at _ rfl _ _ 55 rfl w3.heap.size 61 i0 _ 4 48 Try.underlying55 hi0 hz0 hz1 hz2 rfl (by decide) _ N3 (rwsC (leftTo ks v j)) rfl (hk3q.alloc _) ⟨wq.heap.size, 0, none⟩ 1 1 (rowC l) rfl rfl ?c1 (rowC_one l) ?c3 ?c4 ?c5 ?_)
                case c1 => first | exact fun j u h => h | (refine rowC_cells (b := wq.heap.size) (o := 0) ⟨?_, ?_, ?_, ?_⟩ <;> simp [go_sem, hg])
                case c3 => unfold maxLen; omega
                case c4 => omega
                case c5 => first | omega | (simp; omega)
                intro v' w5 o5 g5 _ _
                have hbA : Below w3.heap.size w3 (wq.alloc (.cells #[.string l.key, .int .i64 l.ver, .string l.val, .bool true] 61)) := balloc hbq _
                have hB5 : Below w3.heap.size w3 w5 := hbA.grown g5 hbA.size (fun b hb => (hk3.lt b hb).1)
                obtain ⟨g', cap', rfl⟩ := ownsRow_succ o5
                have HO5 : Hid (OutS w5 w3.heap.size (.slice (some ⟨g', 0, none⟩) (N3 + 1) cap') (leftTo ks v (j + 1))) := by
                  have hl : (leftTo ks v j ++ [l]).length = N3 + 1 := by rw [List.length_append, HN3.out]; rfl
                  rw [Hid, HE.out]
                  refine ⟨⟨g', cap', by rw [hl]⟩, ?_⟩
                  rw [hl, rwsC_snoc]
                  exact o5
                clear o5 g5
                go_wp2
                exact ⟨⟨j + 1, by omega, by go_num, HO5, hB5⟩, by simp [intOf]; try omega⟩
              · have hdv : decide (v < l.ver) = false := decide_eq_false hver
                have HE : Hid (leftTo ks v (j + 1) = leftTo ks v j) := HNN.out (by rw [hg, decide_eq_true (by omega)]; rfl)
                go_wp2
                refine ⟨⟨j + 1, by omega, by go_num, ?_, hbq⟩, by simp [intOf]; try omega⟩
                rw [HE.out]
                exact ⟨⟨g3, c3, by rw [HN3.out]⟩, by rw [HN3.out]; exact hk3q⟩
          · have hd1 : ((j : Int) == (m : Int) - 1) = false := by rw [beq_eq_false_iff_ne]; omega
            have hd2 : ¬ ((j : Int) = (m : Int) - 1) := by omega
            have hj1 : j + 1 < m := by omega
            obtain ⟨b, o, ebo, hc2⟩ := hrow (j + 1) hj1
            simp only [Option.some.injEq, Addr.mk.injEq, and_true] at ebo
            obtain ⟨rfl, rfl⟩ := ebo
            have HA1 := HA.out hj1
            obtain ⟨l2, hl2⟩ : ∃ l, ks.getD (j + 1) default = l := ⟨_, rfl⟩
            rw [hl2] at hc2 HA1
            have HA2 : Hid (l.ver ≤ v → l2.key ≠ l.key) := HA1
            clear HA1 hl2
            obtain ⟨t0, t1, t2, t3⟩ := rowCells_below hbl3 hc2
            simp only [Nat.zero_add] at t0 t1 t2 t3
            have hj6 : (0 : Int) ≤ (j : Int) + 1 := by omega
            have hj7 : (j : Int) + 1 < m := by omega
            have hj8 : IntKind.i64.wrap ((j : Int) + 1) = (j : Int) + 1 := by rw [IntKind.wrap_i64]; omega
            have hj9 : ((j : Int) + 1).toNat = j + 1 := by omega
            by_cases hkey : l2.key = l.key
            · have hd3 : (l2.key.toList == l.key.toList) = true := by rw [hkey]; simp
              go_wp2
              go_quiet (fail)
              have hbq : Below w3.heap.size w3 (wr.drewN nq) := bdrN hbl3 nq
              have hk3q : (wr.drewN nq).ownsRow w3.heap.size 61 4 (.slice (some ⟨g3, 0, none⟩) N3 c3) N3 (rwsC (leftTo ks v j)) := owns_below hk3 (bdrN (Below.refl _ _) nq)
              have z0 : (wr.drewN nq).cell? ⟨g, j * 4, none⟩ = some (.string l.key) := p0
              have z1 : (wr.drewN nq).cell? ⟨g, j * 4 + 1, none⟩ = some (.int .i64 l.ver) := p1
              have z2 : (wr.drewN nq).cell? ⟨g, j * 4 + 2, none⟩ = some (.string l.val) := p2
              have z3 : (wr.drewN nq).cell? ⟨g, j * 4 + 3, none⟩ = some (.bool l.gone) := p3
              have hbsq := hbq.size
              generalize wr.drewN nq = wq at *
              clear p0 p1 p2 p3
              cases hg : l.gone with
              | false =>
                have HE : Hid (leftTo ks v (j + 1) = leftTo ks v j ++ [l]) := HYY.out (by rw [hg]; rfl)
                rw [hg] at z3
                go_wp2_with (at_builtin; refine wpList_append_own_at _ rfl _ _ 55 rfl w3.heap.size 61 i0 _ 4 48 Try.underlying55 hi0 hz0 hz1 hz2 rfl (by decide) _ N3 (rwsC (leftTo ks v j)) rfl (hk3q.alloc _) ⟨wq.heap.size, 0, none⟩ 1 1 (rowC l) rfl rfl ?c1 (rowC_one l) ?c3 ?c4 ?c5 ?_)
                case c1 => first | exact fun j u h => h | (refine rowC_cells (b := wq.heap.size) (o := 0) ⟨?_, ?_, ?_, ?_⟩ <;> simp [go_sem, hg])
                case c3 => unfold maxLen; omega
                case c4 => omega
                case c5 => first | omega | (simp; omega)
                intro v' w5 o5 g5 _ _
                have hbA : Below w3.heap.size w3 (wq.alloc (.cells #[.string l.key, .int .i64 l.ver, .string l.val, .bool false] 61)) := balloc hbq _
                have hB5 : Below w3.heap.size w3 w5 := hbA.grown g5 hbA.size (fun b hb => (hk3.lt b hb).1)
                obtain ⟨g', cap', rfl⟩ := ownsRow_succ o5
                have HO5 : Hid (OutS w5 w3.heap.size (.slice (some ⟨g', 0, none⟩) (N3 + 1) cap') (leftTo ks v (j + 1))) := by
                  have hl : (leftTo ks v j ++ [l]).length = N3 + 1 := by rw [List.length_append, HN3.out]; rfl
                  rw [Hid, HE.out]
                  refine ⟨⟨g', cap', by rw [hl]⟩, ?_⟩
                  rw [hl, rwsC_snoc]
                  exact o5
                clear o5 g5
                go_wp2
                exact ⟨⟨j + 1, by omega, by go_num, HO5, hB5⟩, by simp [intOf]; try omega⟩
              | true =>
                rw [hg] at z3
                by_cases hver : v < l.ver
                · have hdv : decide (v < l.ver) = true := decide_eq_true hver
                  have HE : Hid (leftTo ks v (j + 1) = leftTo ks v j ++ [l]) := HYY.out (by rw [hg, decide_eq_false (by omega)]; rfl)
                  go_wp2_with (at_builtin; refine wpList_append_own_at _ rfl _ _ 55 rfl w3.heap.size 61 i0 _ 4 48 Try.underlying55 hi0 hz0 hz1 hz2 rfl (by decide) _ N3 (rwsC (leftTo ks v j)) rfl (hk3q.alloc _) ⟨wq.heap.size, 0, none⟩ 1 1 (rowC l) rfl rfl ?c1 (rowC_one l) ?c3 ?c4 ?c5 ?_)
                  case c1 => first | exact fun j u h => h | (refine rowC_cells (b := wq.heap.size) (o := 0) ⟨?_, ?_, ?_, ?_⟩ <;> simp [go_sem, hg])
                  case c3 => unfold maxLen; omega
                  case c4 => omega
                  case c5 => first | omega | (simp; omega)
                  intro v' w5 o5 g5 _ _
                  have hbA : Below w3.heap.size w3 (wq.alloc (.cells #[.string l.key, .int .i64 l.ver, .string l.val, .bool true] 61)) := balloc hbq _
                  have hB5 : Below w3.heap.size w3 w5 := hbA.grown g5 hbA.size (fun b hb => (hk3.lt b hb).1)
                  obtain ⟨g', cap', rfl⟩ := ownsRow_succ o5
                  have HO5 : Hid (OutS w5 w3.heap.size (.slice (some ⟨g', 0, none⟩) (N3 + 1) cap') (leftTo ks v (j + 1))) := by
                    have hl : (leftTo ks v j ++ [l]).length = N3 + 1 := by rw [List.length_append, HN3.out]; rfl
                    rw [Hid, HE.out]
                    refine ⟨⟨g', cap', by rw [hl]⟩, ?_⟩
                    rw [hl, rwsC_snoc]
                    exact o5
                  clear o5 g5
                  go_wp2
                  exact ⟨⟨j + 1, by omega, by go_num, HO5, hB5⟩, by simp [intOf]; try omega⟩
                · have hdv : decide (v < l.ver) = false := decide_eq_false hver
                  exact absurd hkey (HA2.out (by omega))
            · have hd3 : (l2.key.toList == l.key.toList) = false := by rw [beq_eq_false_iff_ne, Ne, tl_inj]; exact hkey
              have hd4 : ¬ l2.key.toList = l.key.toList := by rw [tl_inj]; exact hkey
              go_wp2
              go_quiet (fail)
              have hbq : Below w3.heap.size w3 (wr.drewN nq) := bdrN hbl3 nq
              have hk3q : (wr.drewN nq).ownsRow w3.heap.size 61 4 (.slice (some ⟨g3, 0, none⟩) N3 c3) N3 (rwsC (leftTo ks v j)) := owns_below hk3 (bdrN (Below.refl _ _) nq)
              have z0 : (wr.drewN nq).cell? ⟨g, j * 4, none⟩ = some (.string l.key) := p0
              have z1 : (wr.drewN nq).cell? ⟨g, j * 4 + 1, none⟩ = some (.int .i64 l.ver) := p1
              have z2 : (wr.drewN nq).cell? ⟨g, j * 4 + 2, none⟩ = some (.string l.val) := p2
              have z3 : (wr.drewN nq).cell? ⟨g, j * 4 + 3, none⟩ = some (.bool l.gone) := p3
              have hbsq := hbq.size
              generalize wr.drewN nq = wq at *
              clear p0 p1 p2 p3
              cases hg : l.gone with
              | false =>
                have HE : Hid (leftTo ks v (j + 1) = leftTo ks v j ++ [l]) := HYY.out (by rw [hg]; rfl)
                rw [hg] at z3
                go_wp2_with (at_builtin; refine wpList_append_own_at _ rfl _ _ 55 rfl w3.heap.size 61 i0 _ 4 48 Try.underlying55 hi0 hz0 hz1 hz2 rfl (by decide) _ N3 (rwsC (leftTo ks v j)) rfl (hk3q.alloc _) ⟨wq.heap.size, 0, none⟩ 1 1 (rowC l) rfl rfl ?c1 (rowC_one l) ?c3 ?c4 ?c5 ?_)
                case c1 => first | exact fun j u h => h | (refine rowC_cells (b := wq.heap.size) (o := 0) ⟨?_, ?_, ?_, ?_⟩ <;> simp [go_sem, hg])
                case c3 => unfold maxLen; omega
                case c4 => omega
                case c5 => first | omega | (simp; omega)
                intro v' w5 o5 g5 _ _
                have hbA : Below w3.heap.size w3 (wq.alloc (.cells #[.string l.key, .int .i64 l.ver, .string l.val, .bool false] 61)) := balloc hbq _
                have hB5 : Below w3.heap.size w3 w5 := hbA.grown g5 hbA.size (fun b hb => (hk3.lt b hb).1)
                obtain ⟨g', cap', rfl⟩ := ownsRow_succ o5
                have HO5 : Hid (OutS w5 w3.heap.size (.slice (some ⟨g', 0, none⟩) (N3 + 1) cap') (leftTo ks v (j + 1))) := by
                  have hl : (leftTo ks v j ++ [l]).length = N3 + 1 := by rw [List.length_append, HN3.out]; rfl
                  rw [Hid, HE.out]
                  refine ⟨⟨g', cap', by rw [hl]⟩, ?_⟩
                  rw [hl, rwsC_snoc]
                  exact o5
                clear o5 g5
                go_wp2
                exact ⟨⟨j + 1, by omega, by go_num, HO5, hB5⟩, by simp [intOf]; try omega⟩
              | true =>
                rw [hg] at z3
                by_cases hver : v < l.ver
                · have hdv : decide (v < l.ver) = true := decide_eq_true hver
                  have HE : Hid (leftTo ks v (j + 1) = leftTo ks v j ++ [l]) := HYY.out (by rw [hg, decide_eq_false (by omega)]; rfl)
                  go_wp2_with (at_builtin; refine wpList_append_own_at _ rfl _ _ 55 rfl w3.heap.size 61 i0 _ 4 48 Try.underlying55 hi0 hz0 hz1 hz2 rfl (by decide) _ N3 (rwsC (leftTo ks v j)) rfl (hk3q.alloc _) ⟨wq.heap.size, 0, none⟩ 1 1 (rowC l) rfl rfl ?c1 (rowC_one l) ?c3 ?c4 ?c5 ?_)
                  case c1 => first | exact fun j u h => h | (refine rowC_cells (b := wq.heap.size) (o := 0) ⟨?_, ?_, ?_, ?_⟩ <;> simp [go_sem, hg])
                  case c3 => unfold maxLen; omega
                  case c4 => omega
                  case c5 => first | omega | (simp; omega)
                  intro v' w5 o5 g5 _ _
                  have hbA : Below w3.heap.size w3 (wq.alloc (.cells #[.string l.key, .int .i64 l.ver, .string l.val, .bool true] 61)) := balloc hbq _
                  have hB5 : Below w3.heap.size w3 w5 := hbA.grown g5 hbA.size (fun b hb => (hk3.lt b hb).1)
                  obtain ⟨g', cap', rfl⟩ := ownsRow_succ o5
                  have HO5 : Hid (OutS w5 w3.heap.size (.slice (some ⟨g', 0, none⟩) (N3 + 1) cap') (leftTo ks v (j + 1))) := by
                    have hl : (leftTo ks v j ++ [l]).length = N3 + 1 := by rw [List.length_append, HN3.out]; rfl
                    rw [Hid, HE.out]
                    refine ⟨⟨g', cap', by rw [hl]⟩, ?_⟩
                    rw [hl, rwsC_snoc]
                    exact o5
                  clear o5 g5
                  go_wp2
                  exact ⟨⟨j + 1, by omega, by go_num, HO5, hB5⟩, by simp [intOf]; try omega⟩
                · have hdv : decide (v < l.ver) = false := decide_eq_false hver
                  have HE : Hid (leftTo ks v (j + 1) = leftTo ks v j) := HNN.out (by rw [hg, decide_eq_true (by omega)]; rfl)
                  go_wp2
                  refine ⟨⟨j + 1, by omega, by go_num, ?_, hbq⟩, by simp [intOf]; try omega⟩
                  rw [HE.out]
                  exact ⟨⟨g3, c3, by rw [HN3.out]⟩, by rw [HN3.out]; exact hk3q⟩
        · obtain rfl : j = m := by omega
          have hj5 : ¬ ((j : Int) < j) := by omega
          have HB5 := bstep hbl hbl3
          go_wp2
          go_ret
          refine ⟨_, rfl, ⟨⟨g3, c3, ?_⟩, ?_⟩, HB5⟩
          · rw [← HCL.out, HN3.out]
            rfl
          · have h5 := owns_base HO3.out.2 hbs
            rw [← HCL.out]
            exact h5
end Go.Proofs.Yteebglgbeijolaa

/-
  The specification's CompactTable, whole.
-/
namespace Go.Proofs.Yteebglgbeijolaa
open Go.RowKit
set_option linter.unusedSectionVars false
variable [DecidableEq Rw] [Inhabited Rw] [DecidableEq TabR] [Inhabited TabR]
set_option linter.unusedVariables false
set_option linter.unusedSimpArgs false
attribute [local go_sem ↓] Go.wp_at_zero Go.wp_at_succ

set_option maxRecDepth 20000 in
set_option maxHeartbeats 4000000 in
theorem specCompact_u (x : Value) (xs : List Rw) (v : Int) (w : World) (hx : rowsR.V w x xs) :
    Calls Try.prog 32 #[x, .int .i64 v] w fun e w' => ∃ u F, e = .returned u ∧ tabRR.O w' w.heap.size F u (compD xs v) ∧ Below w.heap.size w w' := by
  have hX := hx.1
  have HFIT : Hid (Fit (compL xs v)) := fit_mem.2 (fun y hy => fit_mem.1 hx.2 y ((compL_sub xs v).subset hy))
  obtain ⟨ax, cx, rfl⟩ := rows_form hx
  have HXX : Hid (RowsV w (.slice ax xs.length cx) xs) := hX
  generalize hN : xs.length = n at *
  have HN : Hid (xs.length = n) := hN
  clear hN hx
  go_enter Try.func32, Try.ntmps32
  go_wp2_with fail
  refine (specTableFault_any _ xs _ (RowsV_below hX (by (repeat (first | exact Below.refl _ _ | assumption | refine Below.drew ?_ | refine balloc ?_ _ | refine bset ?_ (by simp; omega) _ | refine bset ?_ (by simp) _ | refine bstep ?_ (by assumption)))))).mono ?_
  rintro e w1 ⟨rfl, hb1⟩
  obtain ⟨g1, g2, gf, gz⟩ := boxNew2 hb1 rfl
  have hB1 : Below w.heap.size w w1 := by (repeat (first | exact Below.refl _ _ | assumption | refine Below.drew ?_ | refine balloc ?_ _ | refine bset ?_ (by simp; omega) _ | refine bset ?_ (by simp) _ | refine bstep ?_ (by assumption)))
  clear hb1 hX
  by_cases h0 : tabF xs = 0
  rotate_left
  · have E : Hid (compD xs v = ⟨tabF xs, []⟩) := by rw [Hid]; unfold compD; rw [if_neg h0]
    have h0' : ((tabF xs : Int) == 0) = false := by rw [beq_eq_false_iff_ne]; exact h0
    generalize tabF xs = c at h0 h0' E ⊢
    go_wp2
    refine bodyPost_ret (v := .agg #[.int .i64 c, .slice none 0 0]) (by simp [results, Try.results32, go_sem, g1, g2]) rfl ?_
    obtain ⟨F, hF⟩ := tabRR_nil ((w1.setCell ⟨w.heap.size, 0, none⟩ (.int .i64 c)).setCell ⟨w.heap.size, 1, none⟩ (.slice none 0 0)) w.heap.size c
    rw [E.out]
    first | exact ⟨_, F, rfl, hF, by (repeat (first | exact Below.refl _ _ | assumption | refine Below.drew ?_ | refine balloc ?_ _ | refine bset ?_ (by simp; omega) _ | refine bset ?_ (by simp) _ | refine bstep ?_ (by assumption)))⟩ | exact ⟨_, rfl, ⟨F, hF⟩, by (repeat (first | exact Below.refl _ _ | assumption | refine Below.drew ?_ | refine balloc ?_ _ | refine bset ?_ (by simp; omega) _ | refine bset ?_ (by simp) _ | refine bstep ?_ (by assumption)))⟩
  have E : Hid (compD xs v = ⟨0, compL xs v⟩) := by rw [Hid]; unfold compD; rw [if_pos h0]
  have hC := l5Compact_any (.slice ax n cx) xs v w1 (RowsV_below HXX.out hB1) (rises_of h0) (tabF_all h0).1
  rw [h0]
  generalize compL xs v = ys at *
  go_wp2_with fail
  refine hC.mono ?_
  rintro e w2 ⟨u, rfl, ⟨⟨g, c, rfl⟩, ho⟩, hb2⟩
  clear hC
  have hB2 := bstep hB1 hb2
  have q0 := cell_keep hb2 g1
  have q1 := cell_keep hb2 g2
  have qf := (boxKeep ⟨gf, gz⟩ hb2).1
  obtain ⟨L, hL⟩ : ∃ L, ys.length = L := ⟨_, rfl⟩
  have HL : Hid (ys.length = L) := hL
  rw [hL] at ho ⊢
  clear hL
  have hbz : w.heap.size < w1.heap.size := gz
  go_wp2
  refine bodyPost_ret (v := .agg #[.int .i64 0, .slice (some ⟨g, 0, none⟩) L c]) (by simp [results, Try.results32, go_sem, q0, q1]) rfl ?_
  have ho2 : ((w2.setCell ⟨w.heap.size, 0, none⟩ (.int .i64 0)).setCell ⟨w.heap.size, 1, none⟩ (.slice (some ⟨g, 0, none⟩) L c)).ownsRow w.heap.size 61 4 (.slice (some ⟨g, 0, none⟩) L c) ys.length (rwsC ys) := by
    rw [HL.out]
    exact owns_base (owns_setCell (owns_setCell ho hbz _) hbz _) (by omega)
  obtain ⟨F, hF⟩ := tabRR_of (c := 0) ho2 HFIT.out
  rw [E.out]
  first | exact ⟨_, F, rfl, hF, by (repeat (first | exact Below.refl _ _ | assumption | refine Below.drew ?_ | refine balloc ?_ _ | refine bset ?_ (by simp; omega) _ | refine bset ?_ (by simp) _ | refine bstep ?_ (by assumption)))⟩ | exact ⟨_, rfl, ⟨F, hF⟩, by (repeat (first | exact Below.refl _ _ | assumption | refine Below.drew ?_ | refine balloc ?_ _ | refine bset ?_ (by simp; omega) _ | refine bset ?_ (by simp) _ | refine bstep ?_ (by assumption)))⟩
end Go.Proofs.Yteebglgbeijolaa

/-
  slices.Insert of one row into rows that own their memory.
-/
namespace Go.Proofs.Yteebglgbeijolaa
open Go.RowKit Go.Shelf
set_option linter.unusedSectionVars false
variable [DecidableEq Rw] [Inhabited Rw] [DecidableEq TabR] [Inhabited TabR]
set_option linter.unusedVariables false
set_option linter.unusedSimpArgs false

theorem run_copyN (w : World) (dT sT ty elem : TypeId) (sz g o dLen dCap : Nat) (a : Addr) (sLen sCap m : Nat) (cur : Array Value) (t : TypeId) (cs : List Value)
    (hu : Try.prog.underlying dT = some (.slice elem)) (hs : (Try.prog.info? elem).map (·.size) = some sz)
    (hg : w.heap[g]? = some (.cells cur t (0, 0))) (hm : Nat.min sLen dLen = m) (hn : cs.length = m * sz)
    (hsrc : ∀ j v, cs[j]? = some v → w.cell? (a.add j) = some v) (hfit : o + cs.length ≤ cur.size) (h1 : ∀ v ∈ cs, v.oneCell' = true) :
    (Builtin.copy_ #[dT, sT] ty #[.slice (some ⟨g, o, none⟩) dLen dCap, .slice (some a) sLen sCap]).run Try.prog w =
      .ok (goInt m) (w.setRow g (cur.toList.take o ++ cs ++ cur.toList.drop (o + cs.length)).toArray) := by
  have hl := run_loadCells_list (P := Try.prog) w a cs hsrc
  have hst := run_storeCells_at Try.prog g o t cs 0 cur w hg (by simpa using hfit) h1
  cases hq : Try.prog.info? elem with
  | none => simp [hq] at hs
  | some i =>
    have hi : i.size = sz := by simpa [hq] using hs
    rw [hn] at hl
    simp [Builtin.copy_, run_underlying hu, Builtin.lenOf, Builtin.firstCells, sizeOf, typeInfo, hq, hi, hm, hl, hst]
theorem wpl_copyN (w : World) {ops : Array Oper} {rest : List Oper} {o : Oper} {a : Act} {Q : Exit → Act → World → Prop} (hgd : o.guard = none) (d s : Operand) (t t' : TypeId)
    (ho : o.op = .call { callee := .builtin .copy, args := #[d, s], argTypes := #[t, t'] }) (v u : Value) (hd : a.eval d = v) (hs : a.eval s = u) {v' : Value} {w' : World}
    (hr : (Builtin.copy_ #[t, t'] o.type #[v, u]).run Try.prog w = .ok v' w') (h : wpList Try.prog ops Q rest (a.put o.dst v') w') : wpList Try.prog ops Q (o :: rest) a w := by
  refine wpList_plain hgd fun K hK => ?_
  unfold Oper.wp execOp
  simp only [ho, resolve, invoke, builtin, Sem.run_bind, Sem.run_pure, Result.andThen_ok, List.map_toArray, List.map_cons, List.map_nil, hd, hs, hr]
  exact hK _ _ h
theorem step_copyN {ops : Array Oper} {o : Oper} {a : Act} {w : World} {K : Act → World → Prop} {Q : Exit → Act → World → Prop} {E : Prop} (hgd : o.guard = none) (d s : Operand) (t t' : TypeId)
    (ho : o.op = .call { callee := .builtin .copy, args := #[d, s], argTypes := #[t, t'] }) (v u : Value) (hd : a.eval d = v) (hs : a.eval s = u) {v' : Value} {w' : World}
    (hr : (Builtin.copy_ #[t, t'] o.type #[v, u]).run Try.prog w = .ok v' w') (hK : K (a.put o.dst v') w') :
    if Region.wanted o (yielded ops a.tmps) = true then Oper.wp Try.prog o a w K Q else E := by
  have hw : Region.wanted o (yielded ops a.tmps) = true := by simp [Region.wanted, hgd]
  rw [if_pos hw]
  unfold Oper.wp execOp
  simp only [ho, resolve, invoke, builtin, Sem.run_bind, Sem.run_pure, Result.andThen_ok, List.map_toArray, List.map_cons, List.map_nil, hd, hs, hr]
  exact hK
theorem mod_setRow (w : World) (g : Nat) (cs : Array Value) : Mod (fun b => b = g) w (w.setRow g cs) :=
  ⟨rfl, rfl, rfl, by simp [World.setRow], fun k _ hn => setRow_other w g k cs hn⟩
theorem addr_add (b o j : Nat) : (⟨b, o, none⟩ : Addr).add j = ⟨b, o + j, none⟩ := by
  by_cases hj0 : j = 0
  · subst hj0; simp [Addr.add]
  · simp [Addr.add, hj0]
theorem cell_row {w : World} {g j : Nat} {cur : Array Value} {t : TypeId} {fr : Nat × Nat} {v : Value} (hg : w.heap[g]? = some (.cells cur t fr)) (h : cur.toList[j]? = some v) : w.cell? ⟨g, j, none⟩ = some v := by
  have : cur[j]? = some v := by rw [← Array.getElem?_toList]; exact h
  simp [World.cell?, hg, this]
theorem shift_row {cur cs vs : List Value} {k m : Nat} (hk : k ≤ cs.length) (hc : cur.take cs.length = cs) (hl : cs.length + m ≤ cur.length) (hv : vs.length = m) :
    ((((cur.take (k + m) ++ cs.drop k ++ cur.drop (k + m + (cs.drop k).length)).take k ++ vs ++ (cur.take (k + m) ++ cs.drop k ++ cur.drop (k + m + (cs.drop k).length)).drop (k + vs.length)).length = cur.length) ∧
    ((cur.take (k + m) ++ cs.drop k ++ cur.drop (k + m + (cs.drop k).length)).take k ++ vs ++ (cur.take (k + m) ++ cs.drop k ++ cur.drop (k + m + (cs.drop k).length)).drop (k + vs.length)).take (cs.length + m) = cs.take k ++ vs ++ cs.drop k) := by
  subst hv
  have h1 : (cur.take (k + vs.length) ++ cs.drop k ++ cur.drop (k + vs.length + (cs.drop k).length)).take k = cs.take k := by
    rw [List.append_assoc, List.take_append_of_le_length (by rw [List.length_take]; omega), List.take_take]
    conv => rhs; rw [← hc, List.take_take]
    congr 1
    omega
  have h2 : (cur.take (k + vs.length) ++ cs.drop k ++ cur.drop (k + vs.length + (cs.drop k).length)).drop (k + vs.length) = cs.drop k ++ cur.drop (k + vs.length + (cs.drop k).length) := by
    rw [List.append_assoc, List.drop_append_of_le_length (by rw [List.length_take]; omega), List.drop_take]
    simp
  rw [h1, h2]
  have hd : (cs.drop k).length = cs.length - k := List.length_drop ..
  constructor
  · simp only [List.length_append, List.length_take, List.length_drop]
    omega
  · rw [← List.append_assoc, List.take_append_of_le_length (by simp only [List.length_append, List.length_take, List.length_drop]; omega), List.take_of_length_le (by simp only [List.length_append, List.length_take, List.length_drop]; omega)]
set_option maxHeartbeats 4000000 in
set_option maxRecDepth 100000 in
theorem insert_shift (g n c i vb : Nat) (cs vs : List Value) (cur : Array Value) (w : World) (hg : w.heap[g]? = some (.cells cur 61 (0, 0))) (hi : i < n) (hroom : n + 1 ≤ c) (hc63 : c ≤ 9223372036854775807) (hvb : vb ≠ g)
    (hcur : cur.size = c * 4) (hcl : cs.length = n * 4) (ht : cur.toList.take (n * 4) = cs) (hvl : vs.length = 4) (hv : w.heap[vb]? = some (.cells vs.toArray 61 (0, 0))) (h1c : ∀ v ∈ cs, v.oneCell' = true) (h1v : ∀ v ∈ vs, v.oneCell' = true) :
    Calls Try.prog 146 #[.slice (some ⟨g, 0, none⟩) n c, .int .i64 i, .slice (some ⟨vb, 0, none⟩) 1 1] w fun e w' =>
      e = .returned (.slice (some ⟨g, 0, none⟩) (n + 1) c) ∧ ∃ cur' : Array Value, w'.heap[g]? = some (.cells cur' 61 (0, 0)) ∧ cur'.size = c * 4 ∧ cur'.toList.take ((n + 1) * 4) = cs.take (i * 4) ++ vs ++ cs.drop (i * 4) ∧ Mod (fun b => b = g) w w' := by
  have hz2 : ¬ ((i : Int) = (n : Int)) := by omega
  have hsz : (Try.prog.info? 61).map (·.size) = some 4 := by
    obtain ⟨i0, hi0, _, h1, _⟩ := info_parts infoRw
    rw [hi0]; simp [h1]
  have hzz : ∀ w, (Go.sizeOf 61).run Try.prog w = .ok 4 w := fun w => by
    obtain ⟨i0, hi0, _, h1, _⟩ := info_parts infoRw
    simp [sizeOf, typeInfo, hi0, h1]
  have hov : ∀ lb cb, (callFunc 164 #[.slice (some ⟨vb, 0, none⟩) 1 1, .slice (some ⟨g, (i + 1) * 4, none⟩) lb cb]).run Try.prog w = .ok (.value (.bool false)) w := fun lb cb => by
    rw [run_callFunc_extern Try.func164 (by kernel_rfl) (by kernel_rfl) (by kernel_rfl) (e := Extern.SlicesOverlaps.overlaps #[55, 55] #[4]) (by kernel_rfl),
      Lib.run_overlaps_apart w 55 4 61 Try.underlying55 4 hzz ⟨vb, 0, none⟩ ⟨g, (i + 1) * 4, none⟩ 1 1 lb cb hvb 61 61 4 (c * 4) (by simp [World.shape?, hv, hvl]) (by simp [World.shape?, hg, hcur]) (by omega) (by simp [World.frozen?, hv]) (by simp [World.frozen?, hv])]
    rfl
  have hdl : (cs.drop (i * 4)).length = (n - i) * 4 := by rw [List.length_drop, hcl]; omega
  have hb1 : (0 : Int) ≤ (i : Int) + 1 := by omega
  have hw1 : IntKind.i64.wrap ((i : Int) + 1) = (i : Int) + 1 := by rw [IntKind.wrap_i64]; omega
  have htn : ((i : Int) + 1).toNat = i + 1 := by omega
  have hin : i ≤ n := by omega
  have hb2 : ¬ (c = i + 1) := by omega
  have hb3 : (i : Int) ≤ (n : Int) + 1 := by omega
  have hb4 : ¬ (c = i) := by omega
  obtain ⟨A1, hA1⟩ : ∃ A1 : Array Value, A1 = (cur.toList.take ((i + 1) * 4) ++ cs.drop (i * 4) ++ cur.toList.drop ((i + 1) * 4 + (cs.drop (i * 4)).length)).toArray := ⟨_, rfl⟩
  have hcp1 : ∀ ty dl dc sl sc, dl = n - i → sl = n + 1 - i → (Builtin.copy_ #[55, 55] ty #[.slice (some ⟨g, (i + 1) * 4, none⟩) dl dc, .slice (some ⟨g, i * 4, none⟩) sl sc]).run Try.prog w.drew = .ok (goInt ((n - i : Nat) : Int)) (w.drew.setRow g A1) := fun ty dl dc sl sc e1 e2 => by
    rw [hA1]
    refine run_copyN w.drew _ _ ty 61 4 g ((i + 1) * 4) dl dc ⟨g, i * 4, none⟩ sl sc (n - i) cur 61 (cs.drop (i * 4)) Try.underlying55 hsz hg (by simp only [Nat.min_def]; split <;> omega) hdl (fun j v hj => ?_) (by rw [hdl, hcur]; omega) (fun v hv => h1c v (List.mem_of_mem_drop hv))
    rw [addr_add]
    refine cell_row hg ?_
    rw [List.getElem?_drop, ← ht, List.getElem?_take] at hj
    split at hj
    · exact hj
    · cases hj
  have hA1s : A1.size = c * 4 := by
    rw [hA1]
    simp only [List.size_toArray, List.length_append, List.length_take, List.length_drop, Array.length_toList]
    rw [hcl]
    omega
  have hg1 : (w.drew.setRow g A1).heap[g]? = some (.cells A1 61 (0, 0)) := setRow_heap w.drew g cur A1 _ _ hg
  have hv1 : (w.drew.setRow g A1).heap[vb]? = some (.cells vs.toArray 61 (0, 0)) := (setRow_other w.drew g vb A1 hvb).trans hv
  obtain ⟨W1, hW1⟩ : ∃ W1, W1 = w.drew.setRow g A1 := ⟨_, rfl⟩
  rw [← hW1] at hg1 hv1 hcp1
  have hm1 : Mod (fun b => b = g) w W1 := by
    rw [hW1]
    exact (Mod.of_below (Below.drew (Below.refl _ _))).trans (mod_setRow _ _ _)
  obtain ⟨A2, hA2⟩ : ∃ A2 : Array Value, A2 = (A1.toList.take (i * 4) ++ vs ++ A1.toList.drop (i * 4 + vs.length)).toArray := ⟨_, rfl⟩
  have hcp2 : ∀ (W : World), W.heap[g]? = some (.cells A1 61 (0, 0)) → W.heap[vb]? = some (.cells vs.toArray 61 (0, 0)) → ∀ ty dc, (Builtin.copy_ #[55, 55] ty #[.slice (some ⟨g, i * 4, none⟩) (n + 1 - i) dc, .slice (some ⟨vb, 0, none⟩) 1 1]).run Try.prog W = .ok (goInt 1) (W.setRow g A2) := fun W hW1 hW2 ty dc => by
    rw [hA2]
    refine run_copyN W _ _ ty 61 4 g (i * 4) (n + 1 - i) dc ⟨vb, 0, none⟩ 1 1 1 A1 61 vs Try.underlying55 hsz hW1 (by simp only [Nat.min_def]; split <;> omega) (by omega) (fun j v hj => ?_) (by rw [hvl, hA1s]; omega) h1v
    rw [addr_add]
    exact cell_row hW2 (by simpa using hj)
  have hfin : A2.size = c * 4 ∧ A2.toList.take ((n + 1) * 4) = cs.take (i * 4) ++ vs ++ cs.drop (i * 4) := by
    have h := shift_row (cur := cur.toList) (cs := cs) (vs := vs) (k := i * 4) (m := 4) (by rw [hcl]; omega) (by rw [hcl]; exact ht) (by rw [hcl, Array.length_toList, hcur]; omega) hvl
    rw [hA2, hA1]
    rw [show (i + 1) * 4 = i * 4 + 4 by omega, show (n + 1) * 4 = cs.length + 4 by rw [hcl]; omega]
    refine ⟨?_, h.2⟩
    rw [List.size_toArray]
    have h1 := h.1
    have h2 : cur.toList.length = c * 4 := by rw [Array.length_toList, hcur]
    rw [h2] at h1
    exact h1
  clear hA1 hA2 hW1
  have HF : Hid (A2.size = c * 4 ∧ A2.toList.take ((n + 1) * 4) = cs.take (i * 4) ++ vs ++ cs.drop (i * 4)) := hfin
  clear hfin
  go_enter Try.func146, Try.ntmps146
  go_wp2_with (simp only [hov])
  go_region_law (refine step_copyN rfl (.tmp 73) (.tmp 76) 55 55 rfl _ _ (by simp [Act.eval, Act.put]) (by simp [Act.eval, Act.put]) (hcp1 _ _ _ _ _ (by omega) (by omega)) ?_)
  go_wp2_with (at_builtin; refine wpl_copyN _ rfl _ _ 55 55 rfl _ _ rfl rfl (hcp2 _ hg1 hv1 _ _) ?_)
  go_ret
  refine ⟨rfl, A2, setRow_heap _ g A1 A2 _ _ hg1, HF.out.1, HF.out.2, hm1.trans (mod_setRow _ _ _)⟩
end Go.Proofs.Yteebglgbeijolaa

