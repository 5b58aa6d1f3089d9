/-
  The specification's CompactTable.
-/
import Derived.Test.YtdfapehonegeeaaMrgD
import Derived.Test.YtdfapehonegeeaaCmpM
import Derived.BigQuiet
import Derived.Maps.AppendAt
namespace Go.Proofs.Ytdfapehonegeeaa
open Go.RowKit
set_option linter.unusedSectionVars false
variable [DecidableEq Rw] [Inhabited Rw] [DecidableEq TabR] [Inhabited TabR]
set_option linter.unusedVariables false
set_option linter.unusedSimpArgs false
attribute [local go_sem ↓] Go.wp_at_zero Go.wp_at_succ

/-- does y shadow x, if it stands ahead? -/
def shY (v : Int) (x y : Rw) : Bool := decide (y.key = x.key) && decide (y.ver ≤ v)
theorem shad_at {xs : List Rw} (hr : Rises xs) {i : Nat} (hi : i < xs.length) (v : Int) : (xs.take i).any (shY v (xs.getD i default)) = shad xs v (xs.getD i default) := by
  have hx : xs.getD i default = xs[i] := by simp [List.getD, hi]
  rw [hx]
  unfold Rises at hr
  rw [List.pairwise_iff_getElem] at hr
  rw [Bool.eq_iff_iff, shad_iff]
  simp only [List.any_eq_true, shY, Bool.and_eq_true, decide_eq_true_eq]
  constructor
  · rintro ⟨y, hy, hk, hv⟩
    obtain ⟨j, hj, rfl⟩ := List.mem_iff_getElem.1 hy
    rw [List.length_take] at hj
    rw [List.getElem_take] at hk hv
    have h1 := hr j i (by omega) hi (by omega)
    exact ⟨_, List.getElem_mem _, hk, (ahead_same hk).1 h1, hv⟩
  · rintro ⟨y, hy, hk, hlt, hv⟩
    obtain ⟨j, hj, rfl⟩ := List.mem_iff_getElem.1 hy
    rcases Nat.lt_trichotomy j i with h | h | h
    · refine ⟨xs[j], List.mem_iff_getElem.2 ⟨j, by rw [List.length_take]; omega, by rw [List.getElem_take]⟩, hk, hv⟩
    · subst h; omega
    · have h1 := (ahead_same hk.symm).1 (hr i j hi hj h)
      omega
/-- what is kept of the first i -/
def keptTo (xs : List Rw) (v : Int) (i : Nat) : List Rw := (xs.take i).filter (fun x => !shad xs v x)
theorem keptTo_yes {xs : List Rw} {v : Int} {i : Nat} (hi : i < xs.length) (h : shad xs v (xs.getD i default) = false) : keptTo xs v (i + 1) = keptTo xs v i ++ [xs.getD i default] := by
  unfold keptTo
  rw [← take_snoc xs hi, List.filter_append]
  simp only [List.filter_cons, List.filter_nil, h]
  rfl
theorem keptTo_no {xs : List Rw} {v : Int} {i : Nat} (hi : i < xs.length) (h : shad xs v (xs.getD i default) = true) : keptTo xs v (i + 1) = keptTo xs v i := by
  unfold keptTo
  rw [← take_snoc xs hi, List.filter_append]
  simp only [List.filter_cons, List.filter_nil, h]
  simp
theorem keptTo_all (xs : List Rw) (v : Int) : keptTo xs v xs.length = xs.filter (fun x => !shad xs v x) := by unfold keptTo; rw [List.take_length]
theorem keptTo_len (xs : List Rw) (v : Int) (i : Nat) : (keptTo xs v i).length ≤ i := by
  have h1 := List.length_filter_le (fun x => !shad xs v x) (xs.take i)
  have h2 := List.length_take_le i xs
  unfold keptTo
  omega
/-- what is left of the first j that were kept -/
def leftTo (ks : List Rw) (v : Int) (j : Nat) : List Rw := (ks.take j).filter (fun x => !(x.gone && decide (x.ver ≤ v)))
theorem leftTo_yes {ks : List Rw} {v : Int} {j : Nat} (hj : j < ks.length) (h : ((ks.getD j default).gone && decide ((ks.getD j default).ver ≤ v)) = false) : leftTo ks v (j + 1) = leftTo ks v j ++ [ks.getD j default] := by
  unfold leftTo
  rw [← take_snoc ks hj, List.filter_append]
  simp only [List.filter_cons, List.filter_nil, h]
  rfl
theorem leftTo_no {ks : List Rw} {v : Int} {j : Nat} (hj : j < ks.length) (h : ((ks.getD j default).gone && decide ((ks.getD j default).ver ≤ v)) = true) : leftTo ks v (j + 1) = leftTo ks v j := by
  unfold leftTo
  rw [← take_snoc ks hj, List.filter_append]
  simp only [List.filter_cons, List.filter_nil, h]
  simp
theorem leftTo_len (ks : List Rw) (v : Int) (j : Nat) : (leftTo ks v j).length ≤ j := by
  have h1 := List.length_filter_le (fun x => !(x.gone && decide (x.ver ≤ v))) (ks.take j)
  have h2 := List.length_take_le j ks
  unfold leftTo
  omega
/-- a row that is kept and counts is the last of its key -/
theorem kept_last {xs : List Rw} (hr : Rises xs) {v : Int} {i : Nat} {ks : List Rw} (hk : ks = xs.filter (fun x => !shad xs v x)) (hi : i + 1 < ks.length) (hv : (ks.getD i default).ver ≤ v) : (ks.getD (i + 1) default).key ≠ (ks.getD i default).key := by
  intro e
  have hrk : Rises ks := by rw [hk]; exact List.Pairwise.filter _ hr
  unfold Rises at hrk
  rw [List.pairwise_iff_getElem] at hrk
  have h1 := hrk i (i + 1) (by omega) hi (by omega)
  have e1 : ks.getD i default = ks[i] := by simp [List.getD, show i < ks.length by omega]
  have e2 : ks.getD (i + 1) default = ks[i + 1] := by simp [List.getD, hi]
  rw [e1] at hv e
  rw [e2] at e
  have h2 := (ahead_same e.symm).1 h1
  have m1 : ks[i] ∈ ks := List.getElem_mem _
  have m2 : ks[i + 1] ∈ ks := List.getElem_mem _
  have m1' : ks[i] ∈ xs := by
    have : ks[i] ∈ xs.filter (fun x => !shad xs v x) := hk ▸ m1
    exact (List.mem_filter.1 this).1
  have m2' : shad xs v ks[i + 1] = false := by
    have : ks[i + 1] ∈ xs.filter (fun x => !shad xs v x) := hk ▸ m2
    simpa using (List.mem_filter.1 this).2
  have : shad xs v ks[i + 1] = true := (shad_iff xs v _).2 ⟨ks[i], m1', e.symm, h2, hv⟩
  rw [m2'] at this
  cases this
theorem any_take {xs : List Rw} (p : Rw → Bool) {k : Nat} (hk : k < xs.length) : (xs.take (k + 1)).any p = ((xs.take k).any p || p (xs.getD k default)) := by
  rw [← take_snoc xs hk, List.any_append]
  simp

theorem cmpKeep {w w' : World} {b o b' o' : Nat} {x y : Rw} (hb : Below w.heap.size w w') (h : rowCells w b o x) (h' : rowCells w b' o' y) :
    Below w.heap.size w w' ∧ (w'.cell? ⟨b, o, none⟩ = some (.string x.key) ∧ w'.cell? ⟨b, o + 1, none⟩ = some (.int .i64 x.ver) ∧ w'.cell? ⟨b, o + 2, none⟩ = some (.string x.val) ∧ w'.cell? ⟨b, o + 3, none⟩ = some (.bool x.gone)) ∧ (w'.cell? ⟨b', o', none⟩ = some (.string y.key) ∧ w'.cell? ⟨b', o' + 1, none⟩ = some (.int .i64 y.ver) ∧ w'.cell? ⟨b', o' + 2, none⟩ = some (.string y.val) ∧ w'.cell? ⟨b', o' + 3, none⟩ = some (.bool y.gone)) := rowKeep2 hb h h'

set_option maxRecDepth 100000 in
set_option maxHeartbeats 8000000 in
theorem l5Compact_any (x : Value) (xs : List Rw) (v : Int) (w : World) (hx : RowsV w x xs) (hr : Rises xs) (hn : xs.length ≤ 200) :
    Calls Try.prog 66 #[x, .int .i64 v] w fun e w' => ∃ u, e = .returned u ∧ OutS w' w.heap.size u (compL xs v) ∧ Below w.heap.size w w' := by
  obtain ⟨i0, hi0, hz0, hz1, hz2⟩ := info_parts infoRw
  obtain ⟨ax, cx, rfl, hcx, hmx, hx⟩ := hx
  unfold maxLen at hmx
  have HSH : Hid (∀ i, i < xs.length → (xs.take i).any (shY v (xs.getD i default)) = shad xs v (xs.getD i default)) := fun i hi => shad_at hr hi v
  have HKY : Hid (∀ i, i < xs.length → shad xs v (xs.getD i default) = false → keptTo xs v (i + 1) = keptTo xs v i ++ [xs.getD i default]) := fun i hi h => keptTo_yes hi h
  have HKN : Hid (∀ i, i < xs.length → shad xs v (xs.getD i default) = true → keptTo xs v (i + 1) = keptTo xs v i) := fun i hi h => keptTo_no hi h
  have HAT : Hid (∀ q k, k < xs.length → (xs.take (k + 1)).any (shY v q) = ((xs.take k).any (shY v q) || shY v q (xs.getD k default))) := fun q k hk => any_take _ hk
  have HKL : Hid (∀ i, (keptTo xs v i).length ≤ i) := keptTo_len xs v
  have HKA : Hid (keptTo xs v xs.length = xs.filter (fun x => !shad xs v x)) := keptTo_all xs v
  have HLA : Hid (∀ i, i + 1 < (keptTo xs v xs.length).length → ((keptTo xs v xs.length).getD i default).ver ≤ v → ((keptTo xs v xs.length).getD (i + 1) default).key ≠ ((keptTo xs v xs.length).getD i default).key) := fun i hi hv => kept_last hr (keptTo_all xs v) hi hv
  clear hr
  generalize hN : xs.length = n at *
  have HN : Hid (xs.length = n) := hN
  clear hN
  go_enter Try.func66, Try.ntmps66
  go_wp2
  go_loopw [5, 6] (fun o i W => ∃ k : Nat, k ≤ n ∧ i = .int .i64 k ∧ Hid (OutS W w.heap.size o (keptTo xs v k)) ∧ Below w.heap.size w W) (fun _ i _ => n - (intOf i).toNat)
  case atStart =>
    refine ⟨0, Nat.zero_le _, rfl, ⟨⟨w.heap.size, 0, rfl⟩, ?_⟩, balloc (Below.refl _ _) _⟩
    exact World.ownsRow_lit (base := w.heap.size) (e := 32) (size := 4) w #[] 0 (Nat.le_refl _) (by unfold maxLen; omega) rfl
  case round =>
    obtain ⟨k, hk, rfl, HO, hbl⟩ := hrel
    have hi4 : (0 : Int) ≤ k := by omega
    by_cases hlt : k < n
    · obtain ⟨b, o, rfl, hc⟩ := hx k hlt
      obtain ⟨l, hl⟩ : ∃ l, xs.getD k default = l := ⟨_, rfl⟩
      have HL : Hid (xs.getD k default = l) := hl
      rw [hl] at hc
      have hi5 : (k : Int) < n := by omega
      have HX : Hid (∀ i, i < n → rowCells w b (o + i * 4) (xs.getD i default)) := fun i hi => by
        obtain ⟨b', o', e, h⟩ := hx i hi
        simp only [Option.some.injEq, Addr.mk.injEq, and_true] at e
        obtain ⟨rfl, rfl⟩ := e
        exact h
      clear hx hl
      have hO := HO.out.1
      obtain ⟨g, c, rfl⟩ := hO
      obtain ⟨N1, hN1⟩ : ∃ N1, (keptTo xs v k).length = N1 := ⟨_, rfl⟩
      have HN1 : Hid ((keptTo xs v k).length = N1) := hN1
      rw [hN1] at HO ⊢
      clear hN1
      go_wp2
      go_loopw [7, 8] (fun s j W => ∃ q : Nat, q ≤ k ∧ j = .int .i64 q ∧ s = .bool ((xs.take q).any (shY v l)) ∧ Hid (OutS W w.heap.size (.slice (some ⟨g, 0, none⟩) N1 c) (keptTo xs v k)) ∧ Below w.heap.size w W) (fun _ j _ => k - (intOf j).toNat)
      case atStart => exact ⟨0, Nat.zero_le _, rfl, rfl, HO, hbl⟩
      case round =>
        obtain ⟨q, hq, rfl, rfl, HO2, hbl2⟩ := hrel
        have hj4 : (0 : Int) ≤ q := by omega
        by_cases hql : q < k
        · have hj5 : (q : Int) < k := by omega
          have hj6 : (q : Int) < n := by omega
          have r1 := rowCells_below hbl2 hc
          have r2 := rowCells_below hbl2 (HX.out q (by omega))
          have HT := HAT.out l q (by omega)
          obtain ⟨m, hm⟩ : ∃ m, xs.getD q default = m := ⟨_, rfl⟩
          rw [hm] at r2 HT
          clear hm
          obtain ⟨s, hs⟩ : ∃ s, (xs.take q).any (shY v l) = s := ⟨_, rfl⟩
          rw [hs] at HT ⊢
          have HT2 : Hid ((xs.take (q + 1)).any (shY v l) = (s || shY v l m)) := HT
          clear HT hs
          obtain ⟨p0, p1, p2, p3⟩ := r1
          obtain ⟨t0, t1, t2, t3⟩ := r2
          cases s with
          | true =>
            go_wp2
            go_quiet (fail)
            have hbN : Below w.heap.size w (wr.drewN nq) := bdrN hbl2 nq
            have HON : Hid (OutS (wr.drewN nq) w.heap.size (.slice (some ⟨g, 0, none⟩) N1 c) (keptTo xs v k)) := HO2.out.below (bdrN (Below.refl _ _) nq)
            generalize wr.drewN nq = wq at *
            go_wp2
            refine ⟨⟨q + 1, by omega, by go_num, ?_, HON, hbN⟩, by simp [intOf]; omega⟩
            rw [HT2.out]
            rfl
          | false =>
            by_cases hkey : m.key = l.key
            · have hd1 : (m.key.toList == l.key.toList) = true := by rw [hkey]; simp
              by_cases hver : m.ver ≤ v
              all_goals
                first
                  | have hd2 : decide (m.ver ≤ v) = true := decide_eq_true hver
                  | have hd2 : decide (m.ver ≤ v) = false := decide_eq_false hver
                have HS : Hid (shY v l m = decide (m.ver ≤ v)) := by rw [Hid]; unfold shY; rw [decide_eq_true hkey, Bool.true_and]
                rw [hd2] at HS
                go_wp2
                go_quiet (fail)
                have hbN : Below w.heap.size w (wr.drewN nq) := bdrN hbl2 nq
                have HON : Hid (OutS (wr.drewN nq) w.heap.size (.slice (some ⟨g, 0, none⟩) N1 c) (keptTo xs v k)) := HO2.out.below (bdrN (Below.refl _ _) nq)
                generalize wr.drewN nq = wq at *
                go_wp2
                refine ⟨⟨q + 1, by omega, by go_num, ?_, HON, hbN⟩, by simp [intOf]; omega⟩
                rw [HT2.out, HS.out]
                rfl
            · have hd1 : (m.key.toList == l.key.toList) = false := by rw [beq_eq_false_iff_ne, Ne, tl_inj]; exact hkey
              have hd3 : ¬ m.key.toList = l.key.toList := by rw [tl_inj]; exact hkey
              have HS : Hid (shY v l m = false) := by rw [Hid]; unfold shY; rw [decide_eq_false hkey, Bool.false_and]
              go_wp2
              go_quiet (fail)
              have hbN : Below w.heap.size w (wr.drewN nq) := bdrN hbl2 nq
              have HON : Hid (OutS (wr.drewN nq) w.heap.size (.slice (some ⟨g, 0, none⟩) N1 c) (keptTo xs v k)) := HO2.out.below (bdrN (Below.refl _ _) nq)
              generalize wr.drewN nq = wq at *
              go_wp2
              refine ⟨⟨q + 1, by omega, by go_num, ?_, HON, hbN⟩, by simp [intOf]; omega⟩
              rw [HT2.out, HS.out]
              rfl
        · obtain rfl : q = k := by omega
          have hj5 : ¬ ((q : Int) < q) := by omega
          have hj6 : (q : Int) < n := by omega
          have HSQ := HSH.out q hlt
          rw [HL.out] at HSQ
          rw [HSQ]
          obtain ⟨s, hs⟩ : ∃ s, shad xs v l = s := ⟨_, rfl⟩
          have HKYq := HKY.out q hlt
          have HKNq := HKN.out q hlt
          rw [HL.out, hs] at HKYq HKNq
          rw [hs]
          clear hs HSQ
          cases s with
          | true =>
            have HE : Hid (keptTo xs v (q + 1) = keptTo xs v q) := HKNq rfl
            clear HKYq HKNq
            go_wp2
            refine ⟨⟨q + 1, by omega, by go_num, ?_, hbl2⟩, by simp [intOf]; omega⟩
            rw [HE.out]
            exact HO2
          | false =>
            have HE : Hid (keptTo xs v (q + 1) = keptTo xs v q ++ [l]) := HKYq rfl
            clear HKYq HKNq
            obtain ⟨p0, p1, p2, p3⟩ := rowCells_below hbl2 hc
            have hO2 := HO2.out.2
            rw [HN1.out] at hO2
            have hbs := hbl2.size
            have hN2 := HKL.out q
            rw [HN1.out] at hN2
            go_wp2_with (at_builtin; refine wpList_append_own_at _ rfl _ _ 26 rfl w.heap.size 32 i0 _ 4 48 Try.underlying26 hi0 hz0 hz1 hz2 rfl (by decide) _ N1 (rwsC (keptTo xs v q)) rfl (hO2.alloc _) ⟨wr.heap.size, 0, none⟩ 1 1 (rowC l) rfl rfl ?c1 (rowC_one l) ?c3 ?c4 ?c5 ?_)
            case c1 =>
              exact fun j u h => h
            case c3 => unfold maxLen; omega
            case c4 => omega
            case c5 => first | omega | (simp; omega)
            intro v' w5 o5 g5 _ _
            have hbA : Below w.heap.size w (wr.alloc (.cells #[.string l.key, .int .i64 l.ver, .string l.val, .bool l.gone] 32)) := balloc hbl2 _
            have hB5 : Below w.heap.size w w5 := hbA.grown g5 hbA.size (fun b hb => (hO2.lt b hb).1)
            obtain ⟨g', cap', rfl⟩ := ownsRow_succ o5
            have HO5 : Hid (OutS w5 w.heap.size (.slice (some ⟨g', 0, none⟩) (N1 + 1) cap') (keptTo xs v (q + 1))) := by
              have hl : (keptTo xs v q ++ [l]).length = N1 + 1 := by rw [List.length_append, HN1.out]; rfl
              rw [Hid, HE.out]
              refine ⟨⟨g', cap', by rw [hl]⟩, ?_⟩
              rw [hl, rwsC_snoc]
              exact o5
            clear o5 g5
            go_wp2
            exact ⟨⟨q + 1, by omega, by go_num, HO5, hB5⟩, by simp [intOf]; omega⟩
    · obtain rfl : k = n := by omega
      have hi5 : ¬ ((k : Int) < k) := by omega
      have hO := HO.out.1
      obtain ⟨g, c, rfl⟩ := hO
      have HCL : Hid (leftTo (keptTo xs v k) v (keptTo xs v k).length = compL xs v) := by
        rw [Hid]
        unfold leftTo compL
        rw [List.take_length, HKA.out]
      have hN2 := HKL.out k
      obtain ⟨ks, hks⟩ : ∃ ks, keptTo xs v k = ks := ⟨_, rfl⟩
      rw [hks] at HO HCL HLA hN2 ⊢
      clear hks HKA HKL HKY HKN HSH HAT hx
      have HLY : Hid (∀ j, j < ks.length → ((ks.getD j default).gone && decide ((ks.getD j default).ver ≤ v)) = false → leftTo ks v (j + 1) = leftTo ks v j ++ [ks.getD j default]) := fun j hj h => leftTo_yes hj h
      have HLN : Hid (∀ j, j < ks.length → ((ks.getD j default).gone && decide ((ks.getD j default).ver ≤ v)) = true → leftTo ks v (j + 1) = leftTo ks v j) := fun j hj h => leftTo_no hj h
      have HLL : Hid (∀ j, (leftTo ks v j).length ≤ j) := leftTo_len ks v
      have hKV : RowsV wr (.slice (some ⟨g, 0, none⟩) ks.length c) ks := RowsV_of_owns HO.out.2
      obtain ⟨a', c', e', hc1, hc2, hrow⟩ := hKV
      simp only [Value.slice.injEq] at e'
      obtain ⟨rfl, _, rfl⟩ := e'
      unfold maxLen at hc2
      generalize hN3 : ks.length = m at *
      have HM : Hid (ks.length = m) := hN3
      clear hN3
      have hbs := hbl.size
      obtain ⟨w3, rfl⟩ : ∃ w3, w3 = wr := ⟨_, rfl⟩
      go_wp2
      go_loopw [9, 10] (fun o i W => ∃ j : Nat, j ≤ m ∧ i = .int .i64 j ∧ Hid (OutS W w3.heap.size o (leftTo ks v j)) ∧ Below w3.heap.size w3 W) (fun _ i _ => m - (intOf i).toNat)
      case atStart =>
        refine ⟨0, Nat.zero_le _, rfl, ⟨⟨w3.heap.size, 0, rfl⟩, ?_⟩, balloc (Below.refl _ _) _⟩
        exact World.ownsRow_lit (base := w3.heap.size) (e := 32) (size := 4) w3 #[] 0 (Nat.le_refl _) (by unfold maxLen; omega) rfl
      case round =>
        obtain ⟨j, hj, rfl, HO3, hbl3⟩ := hrel
        have hj4 : (0 : Int) ≤ j := by omega
        have hO3 := HO3.out.1
        obtain ⟨g3, c3, rfl⟩ := hO3
        obtain ⟨N3, hN3⟩ : ∃ N3, (leftTo ks v j).length = N3 := ⟨_, rfl⟩
        have HN3 : Hid ((leftTo ks v j).length = N3) := hN3
        rw [hN3] at HO3 ⊢
        clear hN3
        by_cases hjm : j < m
        · have hj5 : (j : Int) < m := by omega
          obtain ⟨b, o, ebo, hc⟩ := hrow j hjm
          simp only [Option.some.injEq, Addr.mk.injEq, and_true] at ebo
          obtain ⟨rfl, rfl⟩ := ebo
          obtain ⟨l, hl⟩ : ∃ l, ks.getD j default = l := ⟨_, rfl⟩
          have HY := HLY.out j hjm
          have HNo := HLN.out j hjm
          have HA : Hid (∀ h : j + 1 < m, l.ver ≤ v → (ks.getD (j + 1) default).key ≠ l.key) := fun h hv => by
            rw [← hl] at hv ⊢
            exact HLA.out j h hv
          rw [hl] at hc HY HNo
          have HYY : Hid ((l.gone && decide (l.ver ≤ v)) = false → leftTo ks v (j + 1) = leftTo ks v j ++ [l]) := HY
          have HNN : Hid ((l.gone && decide (l.ver ≤ v)) = true → leftTo ks v (j + 1) = leftTo ks v j) := HNo
          clear HY HNo
          obtain ⟨p0, p1, p2, p3⟩ := rowCells_below hbl3 hc
          simp only [Nat.zero_add] at p0 p1 p2 p3
          have hk3 := HO3.out.2
          rw [HN3.out] at hk3
          have hN4 := HLL.out j
          rw [HN3.out] at hN4
          have hbs3 := hbl3.size
          by_cases hlast : j + 1 = m
          · obtain rfl : m = j + 1 := hlast.symm
            have hd1 : ((j : Int) == ((j + 1 : Nat) : Int) - 1) = true := by rw [beq_iff_eq]; omega
            go_wp2
            go_quiet (fail)
            have hbq : Below w3.heap.size w3 (wr.drewN nq) := bdrN hbl3 nq
            have hk3q : (wr.drewN nq).ownsRow w3.heap.size 32 4 (.slice (some ⟨g3, 0, none⟩) N3 c3) N3 (rwsC (leftTo ks v j)) := owns_below hk3 (bdrN (Below.refl _ _) nq)
            have z0 : (wr.drewN nq).cell? ⟨g, j * 4, none⟩ = some (.string l.key) := p0
            have z1 : (wr.drewN nq).cell? ⟨g, j * 4 + 1, none⟩ = some (.int .i64 l.ver) := p1
            have z2 : (wr.drewN nq).cell? ⟨g, j * 4 + 2, none⟩ = some (.string l.val) := p2
            have z3 : (wr.drewN nq).cell? ⟨g, j * 4 + 3, none⟩ = some (.bool l.gone) := p3
            have hbsq := hbq.size
            generalize wr.drewN nq = wq at *
            clear p0 p1 p2 p3
            cases hg : l.gone with
            | false =>
              have HE : Hid (leftTo ks v (j + 1) = leftTo ks v j ++ [l]) := HYY.out (by rw [hg]; rfl)
              rw [hg] at z3
              go_wp2_with (at_builtin; refine wpList_append_own_at _ rfl _ _ 26 rfl w3.heap.size 32 i0 _ 4 48 Try.underlying26 hi0 hz0 hz1 hz2 rfl (by decide) _ N3 (rwsC (leftTo ks v j)) rfl (hk3q.alloc _) ⟨wq.heap.size, 0, none⟩ 1 1 (rowC l) rfl rfl ?c1 (rowC_one l) ?c3 ?c4 ?c5 ?_)
              case c1 => first | exact fun j u h => h | (refine rowC_cells (b := wq.heap.size) (o := 0) ⟨?_, ?_, ?_, ?_⟩ <;> simp [go_sem, hg])
              case c3 => unfold maxLen; omega
              case c4 => omega
              case c5 => first | omega | (simp; omega)
              intro v' w5 o5 g5 _ _
              have hbA : Below w3.heap.size w3 (wq.alloc (.cells #[.string l.key, .int .i64 l.ver, .string l.val, .bool false] 32)) := balloc hbq _
              have hB5 : Below w3.heap.size w3 w5 := hbA.grown g5 hbA.size (fun b hb => (hk3.lt b hb).1)
              obtain ⟨g', cap', rfl⟩ := ownsRow_succ o5
              have HO5 : Hid (OutS w5 w3.heap.size (.slice (some ⟨g', 0, none⟩) (N3 + 1) cap') (leftTo ks v (j + 1))) := by
                have hl : (leftTo ks v j ++ [l]).length = N3 + 1 := by rw [List.length_append, HN3.out]; rfl
                rw [Hid, HE.out]
                refine ⟨⟨g', cap', by rw [hl]⟩, ?_⟩
                rw [hl, rwsC_snoc]
                exact o5
              clear o5 g5
              go_wp2
              exact ⟨⟨j + 1, by omega, by go_num, HO5, hB5⟩, by simp [intOf]; try omega⟩
            | true =>
              rw [hg] at z3
              by_cases hver : v < l.ver
              · have hdv : decide (v < l.ver) = true := decide_eq_true hver
                have HE : Hid (leftTo ks v (j + 1) = leftTo ks v j ++ [l]) := HYY.out (by rw [hg, decide_eq_false (by omega)]; rfl)
                go_wp2_with (at_builtin; refine wpList_append_own_at _ rfl _ _ 26 rfl w3.heap.size 32 i0 _ 4 48 Try.underlying26 hi0 hz0 hz1 hz2 rfl (by decide) _ N3 (rwsC (leftTo ks v j)) rfl (hk3q.alloc _) ⟨wq.heap.size, 0, none⟩ 1 1 (rowC l) rfl rfl ?c1 (rowC_one l) ?c3 ?c4 ?c5 ?_)
                case c1 => first | exact fun j u h => h | (refine rowC_cells (b := wq.heap.size) (o := 0) ⟨?_, ?_, ?_, ?_⟩ <;> simp [go_sem, hg])
                case c3 => unfold maxLen; omega
                case c4 => omega
                case c5 => first | omega | (simp; omega)
                intro v' w5 o5 g5 _ _
                have hbA : Below w3.heap.size w3 (wq.alloc (.cells #[.string l.key, .int .i64 l.ver, .string l.val, .bool true] 32)) := balloc hbq _
                have hB5 : Below w3.heap.size w3 w5 := hbA.grown g5 hbA.size (fun b hb => (hk3.lt b hb).1)
                obtain ⟨g', cap', rfl⟩ := ownsRow_succ o5
                have HO5 : Hid (OutS w5 w3.heap.size (.slice (some ⟨g', 0, none⟩) (N3 + 1) cap') (leftTo ks v (j + 1))) := by
                  have hl : (leftTo ks v j ++ [l]).length = N3 + 1 := by rw [List.length_append, HN3.out]; rfl
                  rw [Hid, HE.out]
                  refine ⟨⟨g', cap', by rw [hl]⟩, ?_⟩
                  rw [hl, rwsC_snoc]
                  exact o5
                clear o5 g5
                go_wp2
                exact ⟨⟨j + 1, by omega, by go_num, HO5, hB5⟩, by simp [intOf]; try omega⟩
              · have hdv : decide (v < l.ver) = false := decide_eq_false hver
                have HE : Hid (leftTo ks v (j + 1) = leftTo ks v j) := HNN.out (by rw [hg, decide_eq_true (by omega)]; rfl)
                go_wp2
                refine ⟨⟨j + 1, by omega, by go_num, ?_, hbq⟩, by simp [intOf]; try omega⟩
                rw [HE.out]
                exact ⟨⟨g3, c3, by rw [HN3.out]⟩, by rw [HN3.out]; exact hk3q⟩
          · have hd1 : ((j : Int) == (m : Int) - 1) = false := by rw [beq_eq_false_iff_ne]; omega
            have hd2 : ¬ ((j : Int) = (m : Int) - 1) := by omega
            have hj1 : j + 1 < m := by omega
            obtain ⟨b, o, ebo, hc2⟩ := hrow (j + 1) hj1
            simp only [Option.some.injEq, Addr.mk.injEq, and_true] at ebo
            obtain ⟨rfl, rfl⟩ := ebo
            have HA1 := HA.out hj1
            obtain ⟨l2, hl2⟩ : ∃ l, ks.getD (j + 1) default = l := ⟨_, rfl⟩
            rw [hl2] at hc2 HA1
            have HA2 : Hid (l.ver ≤ v → l2.key ≠ l.key) := HA1
            clear HA1 hl2
            obtain ⟨t0, t1, t2, t3⟩ := rowCells_below hbl3 hc2
            simp only [Nat.zero_add] at t0 t1 t2 t3
            have hj6 : (0 : Int) ≤ (j : Int) + 1 := by omega
            have hj7 : (j : Int) + 1 < m := by omega
            have hj8 : IntKind.i64.wrap ((j : Int) + 1) = (j : Int) + 1 := by rw [IntKind.wrap_i64]; omega
            have hj9 : ((j : Int) + 1).toNat = j + 1 := by omega
            by_cases hkey : l2.key = l.key
            · have hd3 : (l2.key.toList == l.key.toList) = true := by rw [hkey]; simp
              go_wp2
              go_quiet (fail)
              have hbq : Below w3.heap.size w3 (wr.drewN nq) := bdrN hbl3 nq
              have hk3q : (wr.drewN nq).ownsRow w3.heap.size 32 4 (.slice (some ⟨g3, 0, none⟩) N3 c3) N3 (rwsC (leftTo ks v j)) := owns_below hk3 (bdrN (Below.refl _ _) nq)
              have z0 : (wr.drewN nq).cell? ⟨g, j * 4, none⟩ = some (.string l.key) := p0
              have z1 : (wr.drewN nq).cell? ⟨g, j * 4 + 1, none⟩ = some (.int .i64 l.ver) := p1
              have z2 : (wr.drewN nq).cell? ⟨g, j * 4 + 2, none⟩ = some (.string l.val) := p2
              have z3 : (wr.drewN nq).cell? ⟨g, j * 4 + 3, none⟩ = some (.bool l.gone) := p3
              have hbsq := hbq.size
              generalize wr.drewN nq = wq at *
              clear p0 p1 p2 p3
              cases hg : l.gone with
              | false =>
                have HE : Hid (leftTo ks v (j + 1) = leftTo ks v j ++ [l]) := HYY.out (by rw [hg]; rfl)
                rw [hg] at z3
                go_wp2_with (at_builtin; refine wpList_append_own_at _ rfl _ _ 26 rfl w3.heap.size 32 i0 _ 4 48 Try.underlying26 hi0 hz0 hz1 hz2 rfl (by decide) _ N3 (rwsC (leftTo ks v j)) rfl (hk3q.alloc _) ⟨wq.heap.size, 0, none⟩ 1 1 (rowC l) rfl rfl ?c1 (rowC_one l) ?c3 ?c4 ?c5 ?_)
                case c1 => first | exact fun j u h => h | (refine rowC_cells (b := wq.heap.size) (o := 0) ⟨?_, ?_, ?_, ?_⟩ <;> simp [go_sem, hg])
                case c3 => unfold maxLen; omega
                case c4 => omega
                case c5 => first | omega | (simp; omega)
                intro v' w5 o5 g5 _ _
                have hbA : Below w3.heap.size w3 (wq.alloc (.cells #[.string l.key, .int .i64 l.ver, .string l.val, .bool false] 32)) := balloc hbq _
                have hB5 : Below w3.heap.size w3 w5 := hbA.grown g5 hbA.size (fun b hb => (hk3.lt b hb).1)
                obtain ⟨g', cap', rfl⟩ := ownsRow_succ o5
                have HO5 : Hid (OutS w5 w3.heap.size (.slice (some ⟨g', 0, none⟩) (N3 + 1) cap') (leftTo ks v (j + 1))) := by
                  have hl : (leftTo ks v j ++ [l]).length = N3 + 1 := by rw [List.length_append, HN3.out]; rfl
                  rw [Hid, HE.out]
                  refine ⟨⟨g', cap', by rw [hl]⟩, ?_⟩
                  rw [hl, rwsC_snoc]
                  exact o5
                clear o5 g5
                go_wp2
                exact ⟨⟨j + 1, by omega, by go_num, HO5, hB5⟩, by simp [intOf]; try omega⟩
              | true =>
                rw [hg] at z3
                by_cases hver : v < l.ver
                · have hdv : decide (v < l.ver) = true := decide_eq_true hver
                  have HE : Hid (leftTo ks v (j + 1) = leftTo ks v j ++ [l]) := HYY.out (by rw [hg, decide_eq_false (by omega)]; rfl)
                  go_wp2_with (at_builtin; refine wpList_append_own_at _ rfl _ _ 26 rfl w3.heap.size 32 i0 _ 4 48 Try.underlying26 hi0 hz0 hz1 hz2 rfl (by decide) _ N3 (rwsC (leftTo ks v j)) rfl (hk3q.alloc _) ⟨wq.heap.size, 0, none⟩ 1 1 (rowC l) rfl rfl ?c1 (rowC_one l) ?c3 ?c4 ?c5 ?_)
                  case c1 => first | exact fun j u h => h | (refine rowC_cells (b := wq.heap.size) (o := 0) ⟨?_, ?_, ?_, ?_⟩ <;> simp [go_sem, hg])
                  case c3 => unfold maxLen; omega
                  case c4 => omega
                  case c5 => first | omega | (simp; omega)
                  intro v' w5 o5 g5 _ _
                  have hbA : Below w3.heap.size w3 (wq.alloc (.cells #[.string l.key, .int .i64 l.ver, .string l.val, .bool true] 32)) := balloc hbq _
                  have hB5 : Below w3.heap.size w3 w5 := hbA.grown g5 hbA.size (fun b hb => (hk3.lt b hb).1)
                  obtain ⟨g', cap', rfl⟩ := ownsRow_succ o5
                  have HO5 : Hid (OutS w5 w3.heap.size (.slice (some ⟨g', 0, none⟩) (N3 + 1) cap') (leftTo ks v (j + 1))) := by
                    have hl : (leftTo ks v j ++ [l]).length = N3 + 1 := by rw [List.length_append, HN3.out]; rfl
                    rw [Hid, HE.out]
                    refine ⟨⟨g', cap', by rw [hl]⟩, ?_⟩
                    rw [hl, rwsC_snoc]
                    exact o5
                  clear o5 g5
                  go_wp2
                  exact ⟨⟨j + 1, by omega, by go_num, HO5, hB5⟩, by simp [intOf]; try omega⟩
                · have hdv : decide (v < l.ver) = false := decide_eq_false hver
                  exact absurd hkey (HA2.out (by omega))
            · have hd3 : (l2.key.toList == l.key.toList) = false := by rw [beq_eq_false_iff_ne, Ne, tl_inj]; exact hkey
              have hd4 : ¬ l2.key.toList = l.key.toList := by rw [tl_inj]; exact hkey
              go_wp2
              go_quiet (fail)
              have hbq : Below w3.heap.size w3 (wr.drewN nq) := bdrN hbl3 nq
              have hk3q : (wr.drewN nq).ownsRow w3.heap.size 32 4 (.slice (some ⟨g3, 0, none⟩) N3 c3) N3 (rwsC (leftTo ks v j)) := owns_below hk3 (bdrN (Below.refl _ _) nq)
              have z0 : (wr.drewN nq).cell? ⟨g, j * 4, none⟩ = some (.string l.key) := p0
              have z1 : (wr.drewN nq).cell? ⟨g, j * 4 + 1, none⟩ = some (.int .i64 l.ver) := p1
              have z2 : (wr.drewN nq).cell? ⟨g, j * 4 + 2, none⟩ = some (.string l.val) := p2
              have z3 : (wr.drewN nq).cell? ⟨g, j * 4 + 3, none⟩ = some (.bool l.gone) := p3
              have hbsq := hbq.size
              generalize wr.drewN nq = wq at *
              clear p0 p1 p2 p3
              cases hg : l.gone with
              | false =>
                have HE : Hid (leftTo ks v (j + 1) = leftTo ks v j ++ [l]) := HYY.out (by rw [hg]; rfl)
                rw [hg] at z3
                go_wp2_with (at_builtin; refine wpList_append_own_at _ rfl _ _ 26 rfl w3.heap.size 32 i0 _ 4 48 Try.underlying26 hi0 hz0 hz1 hz2 rfl (by decide) _ N3 (rwsC (leftTo ks v j)) rfl (hk3q.alloc _) ⟨wq.heap.size, 0, none⟩ 1 1 (rowC l) rfl rfl ?c1 (rowC_one l) ?c3 ?c4 ?c5 ?_)
                case c1 => first | exact fun j u h => h | (refine rowC_cells (b := wq.heap.size) (o := 0) ⟨?_, ?_, ?_, ?_⟩ <;> simp [go_sem, hg])
                case c3 => unfold maxLen; omega
                case c4 => omega
                case c5 => first | omega | (simp; omega)
                intro v' w5 o5 g5 _ _
                have hbA : Below w3.heap.size w3 (wq.alloc (.cells #[.string l.key, .int .i64 l.ver, .string l.val, .bool false] 32)) := balloc hbq _
                have hB5 : Below w3.heap.size w3 w5 := hbA.grown g5 hbA.size (fun b hb => (hk3.lt b hb).1)
                obtain ⟨g', cap', rfl⟩ := ownsRow_succ o5
                have HO5 : Hid (OutS w5 w3.heap.size (.slice (some ⟨g', 0, none⟩) (N3 + 1) cap') (leftTo ks v (j + 1))) := by
                  have hl : (leftTo ks v j ++ [l]).length = N3 + 1 := by rw [List.length_append, HN3.out]; rfl
                  rw [Hid, HE.out]
                  refine ⟨⟨g', cap', by rw [hl]⟩, ?_⟩
                  rw [hl, rwsC_snoc]
                  exact o5
                clear o5 g5
                go_wp2
                exact ⟨⟨j + 1, by omega, by go_num, HO5, hB5⟩, by simp [intOf]; try omega⟩
              | true =>
                rw [hg] at z3
                by_cases hver : v < l.ver
                · have hdv : decide (v < l.ver) = true := decide_eq_true hver
                  have HE : Hid (leftTo ks v (j + 1) = leftTo ks v j ++ [l]) := HYY.out (by rw [hg, decide_eq_false (by omega)]; rfl)
                  go_wp2_with (at_builtin; refine wpList_append_own_at _ rfl _ _ 26 rfl w3.heap.size 32 i0 _ 4 48 Try.underlying26 hi0 hz0 hz1 hz2 rfl (by decide) _ N3 (rwsC (leftTo ks v j)) rfl (hk3q.alloc _) ⟨wq.heap.size, 0, none⟩ 1 1 (rowC l) rfl rfl ?c1 (rowC_one l) ?c3 ?c4 ?c5 ?_)
                  case c1 => first | exact fun j u h => h | (refine rowC_cells (b := wq.heap.size) (o := 0) ⟨?_, ?_, ?_, ?_⟩ <;> simp [go_sem, hg])
                  case c3 => unfold maxLen; omega
                  case c4 => omega
                  case c5 => first | omega | (simp; omega)
                  intro v' w5 o5 g5 _ _
                  have hbA : Below w3.heap.size w3 (wq.alloc (.cells #[.string l.key, .int .i64 l.ver, .string l.val, .bool true] 32)) := balloc hbq _
                  have hB5 : Below w3.heap.size w3 w5 := hbA.grown g5 hbA.size (fun b hb => (hk3.lt b hb).1)
                  obtain ⟨g', cap', rfl⟩ := ownsRow_succ o5
                  have HO5 : Hid (OutS w5 w3.heap.size (.slice (some ⟨g', 0, none⟩) (N3 + 1) cap') (leftTo ks v (j + 1))) := by
                    have hl : (leftTo ks v j ++ [l]).length = N3 + 1 := by rw [List.length_append, HN3.out]; rfl
                    rw [Hid, HE.out]
                    refine ⟨⟨g', cap', by rw [hl]⟩, ?_⟩
                    rw [hl, rwsC_snoc]
                    exact o5
                  clear o5 g5
                  go_wp2
                  exact ⟨⟨j + 1, by omega, by go_num, HO5, hB5⟩, by simp [intOf]; try omega⟩
                · have hdv : decide (v < l.ver) = false := decide_eq_false hver
                  have HE : Hid (leftTo ks v (j + 1) = leftTo ks v j) := HNN.out (by rw [hg, decide_eq_true (by omega)]; rfl)
                  go_wp2
                  refine ⟨⟨j + 1, by omega, by go_num, ?_, hbq⟩, by simp [intOf]; try omega⟩
                  rw [HE.out]
                  exact ⟨⟨g3, c3, by rw [HN3.out]⟩, by rw [HN3.out]; exact hk3q⟩
        · obtain rfl : j = m := by omega
          have hj5 : ¬ ((j : Int) < j) := by omega
          have HB5 := bstep hbl hbl3
          go_wp2
          go_ret
          refine ⟨_, rfl, ⟨⟨g3, c3, ?_⟩, ?_⟩, HB5⟩
          · rw [← HCL.out, HN3.out]
            rfl
          · have h5 := owns_base HO3.out.2 hbs
            rw [← HCL.out]
            exact h5

end Go.Proofs.Ytdfapehonegeeaa
