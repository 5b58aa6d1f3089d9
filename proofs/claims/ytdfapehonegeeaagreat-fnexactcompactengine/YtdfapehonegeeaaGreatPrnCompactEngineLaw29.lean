import Derived.Test.YtdfapehonegeeaaGreatPrnCompactEngineLaw11
import Derived.Test.YtdfapehonegeeaaGreatPrnCompactEngineLaw27
import Derived.BigQuiet
import Derived.Maps.AppendAt
import Derived.Test.YtdfapehonegeeaaGreatPrnCompactEngineLaw28
import Derived.Test.YtdfapehonegeeaaGreatPrnCompactEngineLaw4
import Derived.Test.YtdfapehonegeeaaGreatPrnCompactEngineLaw1
import Derived.Deep.Slices
import Derived.Lib.SmallJoins

/-
  The specification's CompactTable.
-/
namespace Go.Proofs.YtdfapehonegeeaaGreat
open Go.RowKit
set_option linter.unusedSectionVars false
variable [DecidableEq Rw] [Inhabited Rw] [DecidableEq TabR] [Inhabited TabR]
set_option linter.unusedVariables false
set_option linter.unusedSimpArgs false
attribute [local go_sem ↓] Go.wp_at_zero Go.wp_at_succ

def shY (v : Int) (x y : Rw) : Bool := decide (y.key = x.key) && decide (y.ver ≤ v)
theorem shad_at {xs : List Rw} (hr : Rises xs) {i : Nat} (hi : i < xs.length) (v : Int) : (xs.take i).any (shY v (xs.getD i default)) = shad xs v (xs.getD i default) := by
  have hx : xs.getD i default = xs[i] := by simp [List.getD, hi]
  rw [hx]
  unfold Rises at hr
  rw [List.pairwise_iff_getElem] at hr
  rw [Bool.eq_iff_iff, shad_iff]
  simp only [List.any_eq_true, shY, Bool.and_eq_true, decide_eq_true_eq]
  constructor
  · rintro ⟨y, hy, hk, hv⟩
    obtain ⟨j, hj, rfl⟩ := List.mem_iff_getElem.1 hy
    rw [List.length_take] at hj
    rw [List.getElem_take] at hk hv
    have h1 := hr j i (by omega) hi (by omega)
    exact ⟨_, List.getElem_mem _, hk, (ahead_same hk).1 h1, hv⟩
  · rintro ⟨y, hy, hk, hlt, hv⟩
    obtain ⟨j, hj, rfl⟩ := List.mem_iff_getElem.1 hy
    rcases Nat.lt_trichotomy j i with h | h | h
    · refine ⟨xs[j], List.mem_iff_getElem.2 ⟨j, by rw [List.length_take]; omega, by rw [List.getElem_take]⟩, hk, hv⟩
    · subst h; omega
    · have h1 := (ahead_same hk.symm).1 (hr i j hi hj h)
      omega
def keptTo (xs : List Rw) (v : Int) (i : Nat) : List Rw := (xs.take i).filter (fun x => !shad xs v x)
theorem keptTo_yes {xs : List Rw} {v : Int} {i : Nat} (hi : i < xs.length) (h : shad xs v (xs.getD i default) = false) : keptTo xs v (i + 1) = keptTo xs v i ++ [xs.getD i default] := by
  unfold keptTo
  rw [← take_snoc xs hi, List.filter_append]
  simp only [List.filter_cons, List.filter_nil, h]
  rfl
theorem keptTo_no {xs : List Rw} {v : Int} {i : Nat} (hi : i < xs.length) (h : shad xs v (xs.getD i default) = true) : keptTo xs v (i + 1) = keptTo xs v i := by
  unfold keptTo
  rw [← take_snoc xs hi, List.filter_append]
  simp only [List.filter_cons, List.filter_nil, h]
  simp
theorem keptTo_all (xs : List Rw) (v : Int) : keptTo xs v xs.length = xs.filter (fun x => !shad xs v x) := by unfold keptTo; rw [List.take_length]
theorem keptTo_len (xs : List Rw) (v : Int) (i : Nat) : (keptTo xs v i).length ≤ i := by
  have h1 := List.length_filter_le (fun x => !shad xs v x) (xs.take i)
  have h2 := List.length_take_le i xs
  unfold keptTo
  omega
def leftTo (ks : List Rw) (v : Int) (j : Nat) : List Rw := (ks.take j).filter (fun x => !(x.gone && decide (x.ver ≤ v)))
theorem leftTo_yes {ks : List Rw} {v : Int} {j : Nat} (hj : j < ks.length) (h : ((ks.getD j default).gone && decide ((ks.getD j default).ver ≤ v)) = false) : leftTo ks v (j + 1) = leftTo ks v j ++ [ks.getD j default] := by
  unfold leftTo
  rw [← take_snoc ks hj, List.filter_append]
  simp only [List.filter_cons, List.filter_nil, h]
  rfl
theorem leftTo_no {ks : List Rw} {v : Int} {j : Nat} (hj : j < ks.length) (h : ((ks.getD j default).gone && decide ((ks.getD j default).ver ≤ v)) = true) : leftTo ks v (j + 1) = leftTo ks v j := by
  unfold leftTo
  rw [← take_snoc ks hj, List.filter_append]
  simp only [List.filter_cons, List.filter_nil, h]
  simp
theorem leftTo_len (ks : List Rw) (v : Int) (j : Nat) : (leftTo ks v j).length ≤ j := by
  have h1 := List.length_filter_le (fun x => !(x.gone && decide (x.ver ≤ v))) (ks.take j)
  have h2 := List.length_take_le j ks
  unfold leftTo
  omega
theorem kept_last {xs : List Rw} (hr : Rises xs) {v : Int} {i : Nat} {ks : List Rw} (hk : ks = xs.filter (fun x => !shad xs v x)) (hi : i + 1 < ks.length) (hv : (ks.getD i default).ver ≤ v) : (ks.getD (i + 1) default).key ≠ (ks.getD i default).key := by
  intro e
  have hrk : Rises ks := by rw [hk]; exact List.Pairwise.filter _ hr
  unfold Rises at hrk
  rw [List.pairwise_iff_getElem] at hrk
  have h1 := hrk i (i + 1) (by omega) hi (by omega)
  have e1 : ks.getD i default = ks[i] := by simp [List.getD, show i < ks.length by omega]
  have e2 : ks.getD (i + 1) default = ks[i + 1] := by simp [List.getD, hi]
  rw [e1] at hv e
  rw [e2] at e
  have h2 := (ahead_same e.symm).1 h1
  have m1 : ks[i] ∈ ks := List.getElem_mem _
  have m2 : ks[i + 1] ∈ ks := List.getElem_mem _
  have m1' : ks[i] ∈ xs := by
    have : ks[i] ∈ xs.filter (fun x => !shad xs v x) := hk ▸ m1
    exact (List.mem_filter.1 this).1
  have m2' : shad xs v ks[i + 1] = false := by
    have : ks[i + 1] ∈ xs.filter (fun x => !shad xs v x) := hk ▸ m2
    simpa using (List.mem_filter.1 this).2
  have : shad xs v ks[i + 1] = true := (shad_iff xs v _).2 ⟨ks[i], m1', e.symm, h2, hv⟩
  rw [m2'] at this
  cases this
theorem any_take {xs : List Rw} (p : Rw → Bool) {k : Nat} (hk : k < xs.length) : (xs.take (k + 1)).any p = ((xs.take k).any p || p (xs.getD k default)) := by
  rw [← take_snoc xs hk, List.any_append]
  simp
set_option maxRecDepth 100000 in
set_option maxHeartbeats 8000000 in
theorem l5Compact_any (x : Value) (xs : List Rw) (v : Int) (w : World) (hx : RowsV w x xs) (hr : Rises xs) (hn : xs.length ≤ 200) :
    Calls Tryz.prog 89 #[x, .int .i64 v] w fun e w' => ∃ u, e = .returned u ∧ OutS w' w.heap.size u (compL xs v) ∧ Below w.heap.size w w' := by
  obtain ⟨i0, hi0, hz0, hz1, hz2⟩ := info_parts infoRw
  obtain ⟨ax, cx, rfl, hcx, hmx, hx⟩ := hx
  unfold maxLen at hmx
  have HSH : Hid (∀ i, i < xs.length → (xs.take i).any (shY v (xs.getD i default)) = shad xs v (xs.getD i default)) := fun i hi => shad_at hr hi v
  have HKY : Hid (∀ i, i < xs.length → shad xs v (xs.getD i default) = false → keptTo xs v (i + 1) = keptTo xs v i ++ [xs.getD i default]) := fun i hi h => keptTo_yes hi h
  have HKN : Hid (∀ i, i < xs.length → shad xs v (xs.getD i default) = true → keptTo xs v (i + 1) = keptTo xs v i) := fun i hi h => keptTo_no hi h
  have HAT : Hid (∀ q k, k < xs.length → (xs.take (k + 1)).any (shY v q) = ((xs.take k).any (shY v q) || shY v q (xs.getD k default))) := fun q k hk => any_take _ hk
  have HKL : Hid (∀ i, (keptTo xs v i).length ≤ i) := keptTo_len xs v
  have HKA : Hid (keptTo xs v xs.length = xs.filter (fun x => !shad xs v x)) := keptTo_all xs v
  have HLA : Hid (∀ i, i + 1 < (keptTo xs v xs.length).length → ((keptTo xs v xs.length).getD i default).ver ≤ v → ((keptTo xs v xs.length).getD (i + 1) default).key ≠ ((keptTo xs v xs.length).getD i default).key) := fun i hi hv => kept_last hr (keptTo_all xs v) hi hv
  clear hr
  generalize hN : xs.length = n at *
  have HN : Hid (xs.length = n) := hN
  clear hN
  go_enter Tryz.func89, Tryz.ntmps89
  go_wp2
  go_loopw [5, 6] (fun o i W => ∃ k : Nat, k ≤ n ∧ i = .int .i64 k ∧ Hid (OutS W w.heap.size o (keptTo xs v k)) ∧ Below w.heap.size w W) (fun _ i _ => n - (intOf i).toNat)
  case atStart =>
    refine ⟨0, Nat.zero_le _, rfl, ⟨⟨w.heap.size, 0, rfl⟩, ?_⟩, balloc (Below.refl _ _) _⟩
    exact World.ownsRow_lit (base := w.heap.size) (e := 76) (size := 4) w #[] 0 (Nat.le_refl _) (by unfold maxLen; omega) rfl
  case round =>
    obtain ⟨k, hk, rfl, HO, hbl⟩ := hrel
    have hi4 : (0 : Int) ≤ k := by omega
    by_cases hlt : k < n
    · obtain ⟨b, o, rfl, hc⟩ := hx k hlt
      obtain ⟨l, hl⟩ : ∃ l, xs.getD k default = l := ⟨_, rfl⟩
      have HL : Hid (xs.getD k default = l) := hl
      rw [hl] at hc
      have hi5 : (k : Int) < n := by omega
      have HX : Hid (∀ i, i < n → rowCells w b (o + i * 4) (xs.getD i default)) := fun i hi => by
        obtain ⟨b', o', e, h⟩ := hx i hi
        simp only [Option.some.injEq, Addr.mk.injEq, and_true] at e
        obtain ⟨rfl, rfl⟩ := e
        exact h
      clear hx hl
      have hO := HO.out.1
      obtain ⟨g, c, rfl⟩ := hO
      obtain ⟨N1, hN1⟩ : ∃ N1, (keptTo xs v k).length = N1 := ⟨_, rfl⟩
      have HN1 : Hid ((keptTo xs v k).length = N1) := hN1
      rw [hN1] at HO ⊢
      clear hN1
      go_wp2
      go_loopw [7, 8] (fun s j W => ∃ q : Nat, q ≤ k ∧ j = .int .i64 q ∧ s = .bool ((xs.take q).any (shY v l)) ∧ Hid (OutS W w.heap.size (.slice (some ⟨g, 0, none⟩) N1 c) (keptTo xs v k)) ∧ Below w.heap.size w W) (fun _ j _ => k - (intOf j).toNat)
      case atStart => exact ⟨0, Nat.zero_le _, rfl, rfl, HO, hbl⟩
      case round =>
        obtain ⟨q, hq, rfl, rfl, HO2, hbl2⟩ := hrel
        have hj4 : (0 : Int) ≤ q := by omega
        by_cases hql : q < k
        · have hj5 : (q : Int) < k := by omega
          have hj6 : (q : Int) < n := by omega
          have r1 := rowCells_below hbl2 hc
          have r2 := rowCells_below hbl2 (HX.out q (by omega))
          have HT := HAT.out l q (by omega)
          obtain ⟨m, hm⟩ : ∃ m, xs.getD q default = m := ⟨_, rfl⟩
          rw [hm] at r2 HT
          clear hm
          obtain ⟨s, hs⟩ : ∃ s, (xs.take q).any (shY v l) = s := ⟨_, rfl⟩
          rw [hs] at HT ⊢
          have HT2 : Hid ((xs.take (q + 1)).any (shY v l) = (s || shY v l m)) := HT
          clear HT hs
          obtain ⟨p0, p1, p2, p3⟩ := r1
          obtain ⟨t0, t1, t2, t3⟩ := r2
          cases s with
          | true =>
            go_wp2
            go_quiet (fail)
            have hbN : Below w.heap.size w (wr.drewN nq) := bdrN hbl2 nq
            have HON : Hid (OutS (wr.drewN nq) w.heap.size (.slice (some ⟨g, 0, none⟩) N1 c) (keptTo xs v k)) := HO2.out.below (bdrN (Below.refl _ _) nq)
            generalize wr.drewN nq = wq at *
            go_wp2
            refine ⟨⟨q + 1, by omega, by go_num, ?_, HON, hbN⟩, by simp [intOf]; omega⟩
            rw [HT2.out]
            rfl
          | false =>
            by_cases hkey : m.key = l.key
            · have hd1 : (m.key.toList == l.key.toList) = true := by rw [hkey]; simp
              by_cases hver : m.ver ≤ v
              all_goals
                first
                  | have hd2 : decide (m.ver ≤ v) = true := decide_eq_true hver
                  | have hd2 : decide (m.ver ≤ v) = false := decide_eq_false hver
                have HS : Hid (shY v l m = decide (m.ver ≤ v)) := by rw [Hid]; unfold shY; rw [decide_eq_true hkey, Bool.true_and]
                rw [hd2] at HS
                go_wp2
                go_quiet (fail)
                have hbN : Below w.heap.size w (wr.drewN nq) := bdrN hbl2 nq
                have HON : Hid (OutS (wr.drewN nq) w.heap.size (.slice (some ⟨g, 0, none⟩) N1 c) (keptTo xs v k)) := HO2.out.below (bdrN (Below.refl _ _) nq)
                generalize wr.drewN nq = wq at *
                go_wp2
                refine ⟨⟨q + 1, by omega, by go_num, ?_, HON, hbN⟩, by simp [intOf]; omega⟩
                rw [HT2.out, HS.out]
                rfl
            · have hd1 : (m.key.toList == l.key.toList) = false := by rw [beq_eq_false_iff_ne, Ne, tl_inj]; exact hkey
              have hd3 : ¬ m.key.toList = l.key.toList := by rw [tl_inj]; exact hkey
              have HS : Hid (shY v l m = false) := by rw [Hid]; unfold shY; rw [decide_eq_false hkey, Bool.false_and]
              go_wp2
              go_quiet (fail)
              have hbN : Below w.heap.size w (wr.drewN nq) := bdrN hbl2 nq
              have HON : Hid (OutS (wr.drewN nq) w.heap.size (.slice (some ⟨g, 0, none⟩) N1 c) (keptTo xs v k)) := HO2.out.below (bdrN (Below.refl _ _) nq)
              generalize wr.drewN nq = wq at *
              go_wp2
              refine ⟨⟨q + 1, by omega, by go_num, ?_, HON, hbN⟩, by simp [intOf]; omega⟩
              rw [HT2.out, HS.out]
              rfl
        · obtain rfl : q = k := by omega
          have hj5 : ¬ ((q : Int) < q) := by omega
          have hj6 : (q : Int) < n := by omega
          have HSQ := HSH.out q hlt
          rw [HL.out] at HSQ
          rw [HSQ]
          obtain ⟨s, hs⟩ : ∃ s, shad xs v l = s := ⟨_, rfl⟩
          have HKYq := HKY.out q hlt
          have HKNq := HKN.out q hlt
          rw [HL.out, hs] at HKYq HKNq
          rw [hs]
          clear hs HSQ
          cases s with
          | true =>
            have HE : Hid (keptTo xs v (q + 1) = keptTo xs v q) := HKNq rfl
            clear HKYq HKNq
            go_wp2
            refine ⟨⟨q + 1, by omega, by go_num, ?_, hbl2⟩, by simp [intOf]; omega⟩
            rw [HE.out]
            exact HO2
          | false =>
            have HE : Hid (keptTo xs v (q + 1) = keptTo xs v q ++ [l]) := HKYq rfl
            clear HKYq HKNq
            obtain ⟨p0, p1, p2, p3⟩ := rowCells_below hbl2 hc
            have hO2 := HO2.out.2
            rw [HN1.out] at hO2
            have hbs := hbl2.size
            have hN2 := HKL.out q
            rw [HN1.out] at hN2
            go_wp2_with (at_builtin; refine wpList_append_own_at _ rfl _ _ 32 rfl w.heap.size 76 i0 _ 4 48 Tryz.underlying32 hi0 hz0 hz1 hz2 rfl (by decide) _ N1 (rwsC (keptTo xs v q)) rfl (hO2.alloc _) ⟨wr.heap.size, 0, none⟩ 1 1 (rowC l) rfl rfl ?c1 (rowC_one l) ?c3 ?c4 ?c5 ?_)
            case c1 =>
              exact fun j u h => h
            case c3 => unfold maxLen; omega
            case c4 => omega
            case c5 => first | omega | (simp; omega)
            intro v' w5 o5 g5 _ _
            have hbA : Below w.heap.size w (wr.alloc (.cells #[.string l.key, .int .i64 l.ver, .string l.val, .bool l.gone] 76)) := balloc hbl2 _
            have hB5 : Below w.heap.size w w5 := hbA.grown g5 hbA.size (fun b hb => (hO2.lt b hb).1)
            obtain ⟨g', cap', rfl⟩ := ownsRow_succ o5
            have HO5 : Hid (OutS w5 w.heap.size (.slice (some ⟨g', 0, none⟩) (N1 + 1) cap') (keptTo xs v (q + 1))) := by
              have hl : (keptTo xs v q ++ [l]).length = N1 + 1 := by rw [List.length_append, HN1.out]; rfl
              rw [Hid, HE.out]
              refine ⟨⟨g', cap', by rw [hl]⟩, ?_⟩
              rw [hl, rwsC_snoc]
              exact o5
            clear o5 g5
            go_wp2
            exact ⟨⟨q + 1, by omega, by go_num, HO5, hB5⟩, by simp [intOf]; omega⟩
    · obtain rfl : k = n := by omega
      have hi5 : ¬ ((k : Int) < k) := by omega
      have hO := HO.out.1
      obtain ⟨g, c, rfl⟩ := hO
      have HCL : Hid (leftTo (keptTo xs v k) v (keptTo xs v k).length = compL xs v) := by
        rw [Hid]
        unfold leftTo compL
        rw [List.take_length, HKA.out]
      have hN2 := HKL.out k
      obtain ⟨ks, hks⟩ : ∃ ks, keptTo xs v k = ks := ⟨_, rfl⟩
      rw [hks] at HO HCL HLA hN2 ⊢
      clear hks HKA HKL HKY HKN HSH HAT hx
      have HLY : Hid (∀ j, j < ks.length → ((ks.getD j default).gone && decide ((ks.getD j default).ver ≤ v)) = false → leftTo ks v (j + 1) = leftTo ks v j ++ [ks.getD j default]) := fun j hj h => leftTo_yes hj h
      have HLN : Hid (∀ j, j < ks.length → ((ks.getD j default).gone && decide ((ks.getD j default).ver ≤ v)) = true → leftTo ks v (j + 1) = leftTo ks v j) := fun j hj h => leftTo_no hj h
      have HLL : Hid (∀ j, (leftTo ks v j).length ≤ j) := leftTo_len ks v
      have hKV : RowsV wr (.slice (some ⟨g, 0, none⟩) ks.length c) ks := RowsV_of_owns HO.out.2
      obtain ⟨a', c', e', hc1, hc2, hrow⟩ := hKV
      simp only [Value.slice.injEq] at e'
      obtain ⟨rfl, _, rfl⟩ := e'
      unfold maxLen at hc2
      generalize hN3 : ks.length = m at *
      have HM : Hid (ks.length = m) := hN3
      clear hN3
      have hbs := hbl.size
      obtain ⟨w3, rfl⟩ : ∃ w3, w3 = wr := ⟨_, rfl⟩
      go_wp2
      go_loopw [9, 10] (fun o i W => ∃ j : Nat, j ≤ m ∧ i = .int .i64 j ∧ Hid (OutS W w3.heap.size o (leftTo ks v j)) ∧ Below w3.heap.size w3 W) (fun _ i _ => m - (intOf i).toNat)
      case atStart =>
        refine ⟨0, Nat.zero_le _, rfl, ⟨⟨w3.heap.size, 0, rfl⟩, ?_⟩, balloc (Below.refl _ _) _⟩
        exact World.ownsRow_lit (base := w3.heap.size) (e := 76) (size := 4) w3 #[] 0 (Nat.le_refl _) (by unfold maxLen; omega) rfl
      case round =>
        obtain ⟨j, hj, rfl, HO3, hbl3⟩ := hrel
        have hj4 : (0 : Int) ≤ j := by omega
        have hO3 := HO3.out.1
        obtain ⟨g3, c3, rfl⟩ := hO3
        obtain ⟨N3, hN3⟩ : ∃ N3, (leftTo ks v j).length = N3 := ⟨_, rfl⟩
        have HN3 : Hid ((leftTo ks v j).length = N3) := hN3
        rw [hN3] at HO3 ⊢
        clear hN3
        by_cases hjm : j < m
        · have hj5 : (j : Int) < m := by omega
          obtain ⟨b, o, ebo, hc⟩ := hrow j hjm
          simp only [Option.some.injEq, Addr.mk.injEq, and_true] at ebo
          obtain ⟨rfl, rfl⟩ := ebo
          obtain ⟨l, hl⟩ : ∃ l, ks.getD j default = l := ⟨_, rfl⟩
          have HY := HLY.out j hjm
          have HNo := HLN.out j hjm
          have HA : Hid (∀ h : j + 1 < m, l.ver ≤ v → (ks.getD (j + 1) default).key ≠ l.key) := fun h hv => by
            rw [← hl] at hv ⊢
            exact HLA.out j h hv
          rw [hl] at hc HY HNo
          have HYY : Hid ((l.gone && decide (l.ver ≤ v)) = false → leftTo ks v (j + 1) = leftTo ks v j ++ [l]) := HY
          have HNN : Hid ((l.gone && decide (l.ver ≤ v)) = true → leftTo ks v (j + 1) = leftTo ks v j) := HNo
          clear HY HNo
          obtain ⟨p0, p1, p2, p3⟩ := rowCells_below hbl3 hc
          simp only [Nat.zero_add] at p0 p1 p2 p3
          have hk3 := HO3.out.2
          rw [HN3.out] at hk3
          have hN4 := HLL.out j
          rw [HN3.out] at hN4
          have hbs3 := hbl3.size
          by_cases hlast : j + 1 = m
          · obtain rfl : m = j + 1 := hlast.symm
            have hd1 : ((j : Int) == ((j + 1 : Nat) : Int) - 1) = true := by rw [beq_iff_eq]; omega
            go_wp2
            go_quiet (fail)
            have hbq : Below w3.heap.size w3 (wr.drewN nq) := bdrN hbl3 nq
            have hk3q : (wr.drewN nq).ownsRow w3.heap.size 76 4 (.slice (some ⟨g3, 0, none⟩) N3 c3) N3 (rwsC (leftTo ks v j)) := owns_below hk3 (bdrN (Below.refl _ _) nq)
            have z0 : (wr.drewN nq).cell? ⟨g, j * 4, none⟩ = some (.string l.key) := p0
            have z1 : (wr.drewN nq).cell? ⟨g, j * 4 + 1, none⟩ = some (.int .i64 l.ver) := p1
            have z2 : (wr.drewN nq).cell? ⟨g, j * 4 + 2, none⟩ = some (.string l.val) := p2
            have z3 : (wr.drewN nq).cell? ⟨g, j * 4 + 3, none⟩ = some (.bool l.gone) := p3
            have hbsq := hbq.size
            generalize wr.drewN nq = wq at *
            clear p0 p1 p2 p3
            cases hg : l.gone with
            | false =>
              have HE : Hid (leftTo ks v (j + 1) = leftTo ks v j ++ [l]) := HYY.out (by rw [hg]; rfl)
              rw [hg] at z3
              go_wp2_with (at_builtin; refine wpList_append_own_at _ rfl _ _ 32 rfl w3.heap.size 76 i0 _ 4 48 Tryz.underlying32 hi0 hz0 hz1 hz2 rfl (by decide) _ N3 (rwsC (leftTo ks v j)) rfl (hk3q.alloc _) ⟨wq.heap.size, 0, none⟩ 1 1 (rowC l) rfl rfl ?c1 (rowC_one l) ?c3 ?c4 ?c5 ?_)
              case c1 => first | exact fun j u h => h | (refine rowC_cells (b := wq.heap.size) (o := 0) ⟨?_, ?_, ?_, ?_⟩ <;> simp [go_sem, hg])
              case c3 => unfold maxLen; omega
              case c4 => omega
              case c5 => first | omega | (simp; omega)
              intro v' w5 o5 g5 _ _
              have hbA : Below w3.heap.size w3 (wq.alloc (.cells #[.string l.key, .int .i64 l.ver, .string l.val, .bool false] 76)) := balloc hbq _
              have hB5 : Below w3.heap.size w3 w5 := hbA.grown g5 hbA.size (fun b hb => (hk3.lt b hb).1)
              obtain ⟨g', cap', rfl⟩ := ownsRow_succ o5
              have HO5 : Hid (OutS w5 w3.heap.size (.slice (some ⟨g', 0, none⟩) (N3 + 1) cap') (leftTo ks v (j + 1))) := by
                have hl : (leftTo ks v j ++ [l]).length = N3 + 1 := by rw [List.length_append, HN3.out]; rfl
                rw [Hid, HE.out]
                refine ⟨⟨g', cap', by rw [hl]⟩, ?_⟩
                rw [hl, rwsC_snoc]
                exact o5
              clear o5 g5
              go_wp2
              exact ⟨⟨j + 1, by omega, by go_num, HO5, hB5⟩, by simp [intOf]; try omega⟩
            | true =>
              rw [hg] at z3
              by_cases hver : v < l.ver
              · have hdv : decide (v < l.ver) = true := decide_eq_true hver
                have HE : Hid (leftTo ks v (j + 1) = leftTo ks v j ++ [l]) := HYY.out (by rw [hg, decide_eq_false (by omega)]; rfl)
                go_wp2_with (at_builtin; refine wpList_append_own_at _ rfl _ _ 32 rfl w3.heap.size 76 i0 _ 4 48 Tryz.underlying32 hi0 hz0 hz1 hz2 rfl (by decide) _ N3 (rwsC (leftTo ks v j)) rfl (hk3q.alloc _) ⟨wq.heap.size, 0, none⟩ 1 1 (rowC l) rfl rfl ?c1 (rowC_one l) ?c3 ?c4 ?c5 ?_)
                case c1 => first | exact fun j u h => h | (refine rowC_cells (b := wq.heap.size) (o := 0) ⟨?_, ?_, ?_, ?_⟩ <;> simp [go_sem, hg])
                case c3 => unfold maxLen; omega
                case c4 => omega
                case c5 => first | omega | (simp; omega)
                intro v' w5 o5 g5 _ _
                have hbA : Below w3.heap.size w3 (wq.alloc (.cells #[.string l.key, .int .i64 l.ver, .string l.val, .bool true] 76)) := balloc hbq _
                have hB5 : Below w3.heap.size w3 w5 := hbA.grown g5 hbA.size (fun b hb => (hk3.lt b hb).1)
                obtain ⟨g', cap', rfl⟩ := ownsRow_succ o5
                have HO5 : Hid (OutS w5 w3.heap.size (.slice (some ⟨g', 0, none⟩) (N3 + 1) cap') (leftTo ks v (j + 1))) := by
                  have hl : (leftTo ks v j ++ [l]).length = N3 + 1 := by rw [List.length_append, HN3.out]; rfl
                  rw [Hid, HE.out]
                  refine ⟨⟨g', cap', by rw [hl]⟩, ?_⟩
                  rw [hl, rwsC_snoc]
                  exact o5
                clear o5 g5
                go_wp2
                exact ⟨⟨j + 1, by omega, by go_num, HO5, hB5⟩, by simp [intOf]; try omega⟩
              · have hdv : decide (v < l.ver) = false := decide_eq_false hver
                have HE : Hid (leftTo ks v (j + 1) = leftTo ks v j) := HNN.out (by rw [hg, decide_eq_true (by omega)]; rfl)
                go_wp2
                refine ⟨⟨j + 1, by omega, by go_num, ?_, hbq⟩, by simp [intOf]; try omega⟩
                rw [HE.out]
                exact ⟨⟨g3, c3, by rw [HN3.out]⟩, by rw [HN3.out]; exact hk3q⟩
          · have hd1 : ((j : Int) == (m : Int) - 1) = false := by rw [beq_eq_false_iff_ne]; omega
            have hd2 : ¬ ((j : Int) = (m : Int) - 1) := by omega
            have hj1 : j + 1 < m := by omega
            obtain ⟨b, o, ebo, hc2⟩ := hrow (j + 1) hj1
            simp only [Option.some.injEq, Addr.mk.injEq, and_true] at ebo
            obtain ⟨rfl, rfl⟩ := ebo
            have HA1 := HA.out hj1
            obtain ⟨l2, hl2⟩ : ∃ l, ks.getD (j + 1) default = l := ⟨_, rfl⟩
            rw [hl2] at hc2 HA1
            have HA2 : Hid (l.ver ≤ v → l2.key ≠ l.key) := HA1
            clear HA1 hl2
            obtain ⟨t0, t1, t2, t3⟩ := rowCells_below hbl3 hc2
            simp only [Nat.zero_add] at t0 t1 t2 t3
            have hj6 : (0 : Int) ≤ (j : Int) + 1 := by omega
            have hj7 : (j : Int) + 1 < m := by omega
            have hj8 : IntKind.i64.wrap ((j : Int) + 1) = (j : Int) + 1 := by rw [IntKind.wrap_i64]; omega
            have hj9 : ((j : Int) + 1).toNat = j + 1 := by omega
            by_cases hkey : l2.key = l.key
            · have hd3 : (l2.key.toList == l.key.toList) = true := by rw [hkey]; simp
              go_wp2
              go_quiet (fail)
              have hbq : Below w3.heap.size w3 (wr.drewN nq) := bdrN hbl3 nq
              have hk3q : (wr.drewN nq).ownsRow w3.heap.size 76 4 (.slice (some ⟨g3, 0, none⟩) N3 c3) N3 (rwsC (leftTo ks v j)) := owns_below hk3 (bdrN (Below.refl _ _) nq)
              have z0 : (wr.drewN nq).cell? ⟨g, j * 4, none⟩ = some (.string l.key) := p0
              have z1 : (wr.drewN nq).cell? ⟨g, j * 4 + 1, none⟩ = some (.int .i64 l.ver) := p1
              have z2 : (wr.drewN nq).cell? ⟨g, j * 4 + 2, none⟩ = some (.string l.val) := p2
              have z3 : (wr.drewN nq).cell? ⟨g, j * 4 + 3, none⟩ = some (.bool l.gone) := p3
              have hbsq := hbq.size
              generalize wr.drewN nq = wq at *
              clear p0 p1 p2 p3
              cases hg : l.gone with
              | false =>
                have HE : Hid (leftTo ks v (j + 1) = leftTo ks v j ++ [l]) := HYY.out (by rw [hg]; rfl)
                rw [hg] at z3
                go_wp2_with (at_builtin; refine wpList_append_own_at _ rfl _ _ 32 rfl w3.heap.size 76 i0 _ 4 48 Tryz.underlying32 hi0 hz0 hz1 hz2 rfl (by decide) _ N3 (rwsC (leftTo ks v j)) rfl (hk3q.alloc _) ⟨wq.heap.size, 0, none⟩ 1 1 (rowC l) rfl rfl ?c1 (rowC_one l) ?c3 ?c4 ?c5 ?_)
                case c1 => first | exact fun j u h => h | (refine rowC_cells (b := wq.heap.size) (o := 0) ⟨?_, ?_, ?_, ?_⟩ <;> simp [go_sem, hg])
                case c3 => unfold maxLen; omega
                case c4 => omega
                case c5 => first | omega | (simp; omega)
                intro v' w5 o5 g5 _ _
                have hbA : Below w3.heap.size w3 (wq.alloc (.cells #[.string l.key, .int .i64 l.ver, .string l.val, .bool false] 76)) := balloc hbq _
                have hB5 : Below w3.heap.size w3 w5 := hbA.grown g5 hbA.size (fun b hb => (hk3.lt b hb).1)
                obtain ⟨g', cap', rfl⟩ := ownsRow_succ o5
                have HO5 : Hid (OutS w5 w3.heap.size (.slice (some ⟨g', 0, none⟩) (N3 + 1) cap') (leftTo ks v (j + 1))) := by
                  have hl : (leftTo ks v j ++ [l]).length = N3 + 1 := by rw [List.length_append, HN3.out]; rfl
                  rw [Hid, HE.out]
                  refine ⟨⟨g', cap', by rw [hl]⟩, ?_⟩
                  rw [hl, rwsC_snoc]
                  exact o5
                clear o5 g5
                go_wp2
                exact ⟨⟨j + 1, by omega, by go_num, HO5, hB5⟩, by simp [intOf]; try omega⟩
              | true =>
                rw [hg] at z3
                by_cases hver : v < l.ver
                · have hdv : decide (v < l.ver) = true := decide_eq_true hver
                  have HE : Hid (leftTo ks v (j + 1) = leftTo ks v j ++ [l]) := HYY.out (by rw [hg, decide_eq_false (by omega)]; rfl)
                  go_wp2_with (at_builtin; refine wpList_append_own_at _ rfl _ _ 32 rfl w3.heap.size 76 i0 _ 4 48 Tryz.underlying32 hi0 hz0 hz1 hz2 rfl (by decide) _ N3 (rwsC (leftTo ks v j)) rfl (hk3q.alloc _) ⟨wq.heap.size, 0, none⟩ 1 1 (rowC l) rfl rfl ?c1 (rowC_one l) ?c3 ?c4 ?c5 ?_)
                  case c1 => first | exact fun j u h => h | (refine rowC_cells (b := wq.heap.size) (o := 0) ⟨?_, ?_, ?_, ?_⟩ <;> simp [go_sem, hg])
                  case c3 => unfold maxLen; omega
                  case c4 => omega
                  case c5 => first | omega | (simp; omega)
                  intro v' w5 o5 g5 _ _
                  have hbA : Below w3.heap.size w3 (wq.alloc (.cells #[.string l.key, .int .i64 l.ver, .string l.val, .bool true] 76)) := balloc hbq _
                  have hB5 : Below w3.heap.size w3 w5 := hbA.grown g5 hbA.size (fun b hb => (hk3.lt b hb).1)
                  obtain ⟨g', cap', rfl⟩ := ownsRow_succ o5
                  have HO5 : Hid (OutS w5 w3.heap.size (.slice (some ⟨g', 0, none⟩) (N3 + 1) cap') (leftTo ks v (j + 1))) := by
                    have hl : (leftTo ks v j ++ [l]).length = N3 + 1 := by rw [List.length_append, HN3.out]; rfl
                    rw [Hid, HE.out]
                    refine ⟨⟨g', cap', by rw [hl]⟩, ?_⟩
                    rw [hl, rwsC_snoc]
                    exact o5
                  clear o5 g5
                  go_wp2
                  exact ⟨⟨j + 1, by omega, by go_num, HO5, hB5⟩, by simp [intOf]; try omega⟩
                · have hdv : decide (v < l.ver) = false := decide_eq_false hver
                  exact absurd hkey (HA2.out (by omega))
            · have hd3 : (l2.key.toList == l.key.toList) = false := by rw [beq_eq_false_iff_ne, Ne, tl_inj]; exact hkey
              have hd4 : ¬ l2.key.toList = l.key.toList := by rw [tl_inj]; exact hkey
              go_wp2
              go_quiet (fail)
              have hbq : Below w3.heap.size w3 (wr.drewN nq) := bdrN hbl3 nq
              have hk3q : (wr.drewN nq).ownsRow w3.heap.size 76 4 (.slice (some ⟨g3, 0, none⟩) N3 c3) N3 (rwsC (leftTo ks v j)) := owns_below hk3 (bdrN (Below.refl _ _) nq)
              have z0 : (wr.drewN nq).cell? ⟨g, j * 4, none⟩ = some (.string l.key) := p0
              have z1 : (wr.drewN nq).cell? ⟨g, j * 4 + 1, none⟩ = some (.int .i64 l.ver) := p1
              have z2 : (wr.drewN nq).cell? ⟨g, j * 4 + 2, none⟩ = some (.string l.val) := p2
              have z3 : (wr.drewN nq).cell? ⟨g, j * 4 + 3, none⟩ = some (.bool l.gone) := p3
              have hbsq := hbq.size
              generalize wr.drewN nq = wq at *
              clear p0 p1 p2 p3
              cases hg : l.gone with
              | false =>
                have HE : Hid (leftTo ks v (j + 1) = leftTo ks v j ++ [l]) := HYY.out (by rw [hg]; rfl)
                rw [hg] at z3
                go_wp2_with (at_builtin; refine wpList_append_own_at _ rfl _ _ 32 rfl w3.heap.size 76 i0 _ 4 48 Tryz.underlying32 hi0 hz0 hz1 hz2 rfl (by decide) _ N3 (rwsC (leftTo ks v j)) rfl (hk3q.alloc _) ⟨wq.heap.size, 0, none⟩ 1 1 (rowC l) rfl rfl ?c1 (rowC_one l) ?c3 ?c4 ?c5 ?_)
                case c1 => first | exact fun j u h => h | (refine rowC_cells (b := wq.heap.size) (o := 0) ⟨?_, ?_, ?_, ?_⟩ <;> simp [go_sem, hg])
                case c3 => unfold maxLen; omega
                case c4 => omega
                case c5 => first | omega | (simp; omega)
                intro v' w5 o5 g5 _ _
                have hbA : Below w3.heap.size w3 (wq.alloc (.cells #[.string l.key, .int .i64 l.ver, .string l.val, .bool false] 76)) := balloc hbq _
                have hB5 : Below w3.heap.size w3 w5 := hbA.grown g5 hbA.size (fun b hb => (hk3.lt b hb).1)
                obtain ⟨g', cap', rfl⟩ := ownsRow_succ o5
                have HO5 : Hid (OutS w5 w3.heap.size (.slice (some ⟨g', 0, none⟩) (N3 + 1) cap') (leftTo ks v (j + 1))) := by
                  have hl : (leftTo ks v j ++ [l]).length = N3 + 1 := by rw [List.length_append, HN3.out]; rfl
                  rw [Hid, HE.out]
                  refine ⟨⟨g', cap', by rw [hl]⟩, ?_⟩
                  rw [hl, rwsC_snoc]
                  exact o5
                clear o5 g5
                go_wp2
                exact ⟨⟨j + 1, by omega, by go_num, HO5, hB5⟩, by simp [intOf]; try omega⟩
              | true =>
                rw [hg] at z3
                by_cases hver : v < l.ver
                · have hdv : decide (v < l.ver) = true := decide_eq_true hver
                  have HE : Hid (leftTo ks v (j + 1) = leftTo ks v j ++ [l]) := HYY.out (by rw [hg, decide_eq_false (by omega)]; rfl)
                  go_wp2_with (at_builtin; refine wpList_append_own_at _ rfl _ _ 32 rfl w3.heap.size 76 i0 _ 4 48 Tryz.underlying32 hi0 hz0 hz1 hz2 rfl (by decide) _ N3 (rwsC (leftTo ks v j)) rfl (hk3q.alloc _) ⟨wq.heap.size, 0, none⟩ 1 1 (rowC l) rfl rfl ?c1 (rowC_one l) ?c3 ?c4 ?c5 ?_)
                  case c1 => first | exact fun j u h => h | (refine rowC_cells (b := wq.heap.size) (o := 0) ⟨?_, ?_, ?_, ?_⟩ <;> simp [go_sem, hg])
                  case c3 => unfold maxLen; omega
                  case c4 => omega
                  case c5 => first | omega | (simp; omega)
                  intro v' w5 o5 g5 _ _
                  have hbA : Below w3.heap.size w3 (wq.alloc (.cells #[.string l.key, .int .i64 l.ver, .string l.val, .bool true] 76)) := balloc hbq _
                  have hB5 : Below w3.heap.size w3 w5 := hbA.grown g5 hbA.size (fun b hb => (hk3.lt b hb).1)
                  obtain ⟨g', cap', rfl⟩ := ownsRow_succ o5
                  have HO5 : Hid (OutS w5 w3.heap.size (.slice (some ⟨g', 0, none⟩) (N3 + 1) cap') (leftTo ks v (j + 1))) := by
                    have hl : (leftTo ks v j ++ [l]).length = N3 + 1 := by rw [List.length_append, HN3.out]; rfl
                    rw [Hid, HE.out]
                    refine ⟨⟨g', cap', by rw [hl]⟩, ?_⟩
                    rw [hl, rwsC_snoc]
                    exact o5
                  clear o5 g5
                  go_wp2
                  exact ⟨⟨j + 1, by omega, by go_num, HO5, hB5⟩, by simp [intOf]; try omega⟩
                · have hdv : decide (v < l.ver) = false := decide_eq_false hver
                  have HE : Hid (leftTo ks v (j + 1) = leftTo ks v j) := HNN.out (by rw [hg, decide_eq_true (by omega)]; rfl)
                  go_wp2
                  refine ⟨⟨j + 1, by omega, by go_num, ?_, hbq⟩, by simp [intOf]; try omega⟩
                  rw [HE.out]
                  exact ⟨⟨g3, c3, by rw [HN3.out]⟩, by rw [HN3.out]; exact hk3q⟩
        · obtain rfl : j = m := by omega
          have hj5 : ¬ ((j : Int) < j) := by omega
          have HB5 := bstep hbl hbl3
          go_wp2
          go_ret
          refine ⟨_, rfl, ⟨⟨g3, c3, ?_⟩, ?_⟩, HB5⟩
          · rw [← HCL.out, HN3.out]
            rfl
          · have h5 := owns_base HO3.out.2 hbs
            rw [← HCL.out]
            exact h5
end Go.Proofs.YtdfapehonegeeaaGreat

/-
  CompactEngine: the specification's side.
-/
namespace Go.Proofs.YtdfapehonegeeaaGreat
open Go.RowKit
set_option linter.unusedSectionVars false
variable [DecidableEq Wri] [Inhabited Wri] [DecidableEq BytesR] [Inhabited BytesR] [DecidableEq Rw] [Inhabited Rw] [DecidableEq TabR] [Inhabited TabR] [DecidableEq Logg] [Inhabited Logg] [DecidableEq Engn] [Inhabited Engn] [DecidableEq LoggR] [Inhabited LoggR] [DecidableEq RecsR] [Inhabited RecsR] [DecidableEq Leg] [Inhabited Leg] [DecidableEq EngR] [Inhabited EngR]
set_option linter.unusedVariables false
set_option linter.unusedSimpArgs false
attribute [local go_sem ↓] Go.wp_at_zero Go.wp_at_succ

set_option maxRecDepth 20000 in
set_option maxHeartbeats 2000000 in
theorem specCompE_u (x : Value) (d : Engn) (fl : Int) (w : World) (hx : engnR.V w x d) (hn : wtEngn d ≤ 1048576) :
    Calls Tryz.prog 30 #[x, .int .i64 fl] w fun e w' => ∃ v F, e = .returned v ∧ engRR.O w' w.heap.size F v (compE d fl) ∧ Below w.heap.size w w' := by
  have HX : Hid (engnR.V w x d) := hx
  obtain ⟨a1, a2, a3, a4, c1, c2, c3, c4, rfl⟩ := engn_form hx
  have HWT : Hid (wtEngn d ≤ 1048576) := hn
  clear hx
  go_enter Tryz.func30, Tryz.ntmps30
  go_wp2_with fail
  refine (specEngF_any _ d _ (engnR.below HX.out (by (repeat (first | exact Below.refl _ _ | assumption | refine Below.drew ?_ | refine balloc ?_ _ | refine bset ?_ (by simp; omega) _ | refine bset ?_ (by simp) _ | refine bstep ?_ (by assumption))))) hn).mono ?_
  rintro e w1 ⟨rfl, b1⟩
  have r0 : w1.cell? ⟨w.heap.size, 0, none⟩ = some (.slice a1 d.log.synced.length c1) := cell_keep b1 (by simp [go_sem])
  have r1 : w1.cell? ⟨w.heap.size, 1, none⟩ = some (.slice a2 d.log.loose.length c2) := cell_keep b1 (by simp [go_sem])
  have r2 : w1.cell? ⟨w.heap.size, 2, none⟩ = some (.slice a3 d.mem.length c3) := cell_keep b1 (by simp [go_sem])
  have r3 : w1.cell? ⟨w.heap.size, 3, none⟩ = some (.slice a4 d.tables.length c4) := cell_keep b1 (by simp [go_sem])
  have r4 : w1.cell? ⟨w.heap.size, 4, none⟩ = some (.int .i64 d.next) := cell_keep b1 (by simp [go_sem])
  have q0 : w1.cell? ⟨w.heap.size + 1, 0, none⟩ = some (.int .i64 0) := cell_keep b1 (by simp [go_sem])
  have q1 : w1.cell? ⟨w.heap.size + 1, 1, none⟩ = some (.int .i64 0) := cell_keep b1 (by simp [go_sem])
  have q2 : w1.cell? ⟨w.heap.size + 1, 2, none⟩ = some (.slice none 0 0) := cell_keep b1 (by simp [go_sem])
  have q3 : w1.cell? ⟨w.heap.size + 1, 3, none⟩ = some (.slice none 0 0) := cell_keep b1 (by simp [go_sem])
  have q4 : w1.cell? ⟨w.heap.size + 1, 4, none⟩ = some (.slice none 0 0) := cell_keep b1 (by simp [go_sem])
  have q5 : w1.cell? ⟨w.heap.size + 1, 5, none⟩ = some (.slice none 0 0) := cell_keep b1 (by simp [go_sem])
  have q6 : w1.cell? ⟨w.heap.size + 1, 6, none⟩ = some (.int .i64 0) := cell_keep b1 (by simp [go_sem])
  obtain ⟨qf, qz⟩ : (∀ o, w1.frozen? ⟨w.heap.size + 1, o, none⟩ = false) ∧ w.heap.size + 1 < w1.heap.size := by
    have h := b1.size
    simp only [World.size_alloc] at h
    exact ⟨fun o => by rw [(bcell b1).2 _ _ (by simp)]; simp [go_sem], by omega⟩
  have hB1 : Below w.heap.size w w1 := by (repeat (first | exact Below.refl _ _ | assumption | refine Below.drew ?_ | refine balloc ?_ _ | refine bset ?_ (by simp; omega) _ | refine bset ?_ (by simp) _ | refine bstep ?_ (by assumption)))
  clear b1 hn
  by_cases h0 : engF d = 0
  rotate_left
  · have HE : Hid (compE d fl = codeE (engF d)) := by unfold Hid compE; rw [if_pos (by simpa using h0)]
    have hc : (engF d == 0) = false := by simpa using h0
    generalize engF d = c at *
    go_wp2
    refine bodyPost_ret (v := .agg #[.int .i64 c, .int .i64 0, .slice none 0 0, .slice none 0 0, .slice none 0 0, .slice none 0 0, .int .i64 0]) (by simp [results, Tryz.results30, go_sem, q0, q1, q2, q3, q4, q5, q6, qf, qz]) rfl ?_
    rw [HE.out]
    first | exact ⟨_, rfl, ⟨_, engR_nil _ _ c 0 0⟩, by (repeat (first | refine bset ?_ (by simp; omega) _ | refine bset ?_ (by simp) _ | refine balloc ?_ _ | assumption))⟩ | exact ⟨_, _, rfl, engR_nil _ _ c 0 0, by (repeat (first | refine bset ?_ (by simp; omega) _ | refine bset ?_ (by simp) _ | refine balloc ?_ _ | assumption))⟩
  rw [h0]
  have HEF : Hid (engF d = 0) := h0
  clear h0
  have h6 : d.tables.length ≤ 6 := (partsF_inv (engF_inv HEF.out).1).2.2.1
  have H2 : Hid (d.tables.length < 2 → compE d fl = codeE 4) := fun h => by unfold compE; rw [if_neg (by simpa using HEF.out), if_pos h]
  have HC : Hid (¬ d.tables.length < 2 → ¬ (mergeD d.tables).code = 0 → compE d fl = codeE (mergeD d.tables).code) := fun h h1 => by unfold compE; rw [if_neg (by simpa using HEF.out), if_neg h, if_pos h1]
  have HOK : Hid (¬ d.tables.length < 2 → (mergeD d.tables).code = 0 → compE d fl = ⟨0, 0, { d with tables := [compL (mergeD d.tables).rows fl] }⟩) := fun h h1 => by unfold compE; rw [if_neg (by simpa using HEF.out), if_neg h, if_neg (by simpa using h1)]
  have HMO : Hid ((mergeD d.tables).code = 0 → Rises (mergeD d.tables).rows ∧ tabF (mergeD d.tables).rows = 0 ∧ (mergeD d.tables).rows.length ≤ 200) := fun h => merge_ok h (by omega)
  by_cases h2 : d.tables.length < 2
  · have HE : Hid (compE d fl = codeE 4) := H2.out h2
    have h3 : (d.tables.length : Int) < 2 := by omega
    clear H2 HC HOK HMO
    generalize d.tables.length = lt at *
    go_wp2
    refine bodyPost_ret (v := .agg #[.int .i64 4, .int .i64 0, .slice none 0 0, .slice none 0 0, .slice none 0 0, .slice none 0 0, .int .i64 0]) (by simp [results, Tryz.results30, go_sem, q0, q1, q2, q3, q4, q5, q6, qf, qz]) rfl ?_
    rw [HE.out]
    first | exact ⟨_, rfl, ⟨_, engR_nil _ _ 4 0 0⟩, by (repeat (first | refine bset ?_ (by simp; omega) _ | refine bset ?_ (by simp) _ | refine balloc ?_ _ | assumption))⟩ | exact ⟨_, _, rfl, engR_nil _ _ 4 0 0, by (repeat (first | refine bset ?_ (by simp; omega) _ | refine bset ?_ (by simp) _ | refine balloc ?_ _ | assumption))⟩
  have h3 : ¬ (d.tables.length : Int) < 2 := by omega
  have HT : Hid (rowssR.V w (.slice a4 d.tables.length c4) d.tables) := by
    obtain ⟨u1, u2, u3, u4, e, _, _, h⟩ := HX.out
    simp only [Value.agg.injEq, Array.mk.injEq, List.cons.injEq, and_true] at e
    obtain ⟨_, _, _, rfl⟩ := e
    exact h
  go_wp2_with fail
  refine (specMerge_u _ d.tables _ (rowssR.below HT.out hB1)).mono ?_
  rintro e w2 ⟨v2, F2, rfl, o2, b2⟩
  replace r0 := cell_keep b2 r0
  replace r1 := cell_keep b2 r1
  replace r2 := cell_keep b2 r2
  replace r3 := cell_keep b2 r3
  replace r4 := cell_keep b2 r4
  replace q0 := cell_keep b2 q0
  replace q1 := cell_keep b2 q1
  replace q2 := cell_keep b2 q2
  replace q3 := cell_keep b2 q3
  replace q4 := cell_keep b2 q4
  replace q5 := cell_keep b2 q5
  replace q6 := cell_keep b2 q6
  obtain ⟨qf, qz⟩ := boxKeep ⟨qf, qz⟩ b2
  have hB2 := bstep hB1 b2
  have zr2 := World.block_lt_of_cell? _ _ r0
  dsimp only at zr2
  obtain ⟨a5, c5, rfl⟩ := tabR_form (tabRR.ofO o2)
  obtain ⟨u5, e5, hV5⟩ := tabRR.ofO o2
  simp only [Value.agg.injEq, Array.mk.injEq, List.cons.injEq, and_true, true_and] at e5
  subst e5
  have HV5 : Hid (rowsR.V w2 (.slice a5 (mergeD d.tables).rows.length c5) (mergeD d.tables).rows) := hV5
  have HC2 : Hid (¬ (mergeD d.tables).code = 0 → compE d fl = codeE (mergeD d.tables).code) := HC.out h2
  have HOK2 : Hid ((mergeD d.tables).code = 0 → compE d fl = ⟨0, 0, { d with tables := [compL (mergeD d.tables).rows fl] }⟩) := HOK.out h2
  clear b2 o2 hV5 HC HOK H2 h2 h3 hB1
  generalize (mergeD d.tables).code = mc at *
  by_cases hmc : mc = 0
  rotate_left
  · have HE : Hid (compE d fl = codeE mc) := HC2.out hmc
    have hc : (mc == 0) = false := by simpa using hmc
    clear HC2 HOK2 HMO HV5
    generalize (mergeD d.tables).rows.length = lr at *
    go_wp2
    refine bodyPost_ret (v := .agg #[.int .i64 mc, .int .i64 0, .slice none 0 0, .slice none 0 0, .slice none 0 0, .slice none 0 0, .int .i64 0]) (by simp [results, Tryz.results30, go_sem, q0, q1, q2, q3, q4, q5, q6, qf, qz]) rfl ?_
    rw [HE.out]
    first | exact ⟨_, rfl, ⟨_, engR_nil _ _ mc 0 0⟩, balloc (bset7 hB2 (by omega) _ _ _ _ _ _ _) _⟩ | exact ⟨_, _, rfl, engR_nil _ _ mc 0 0, balloc (bset7 hB2 (by omega) _ _ _ _ _ _ _) _⟩
  have HE : Hid (compE d fl = ⟨0, 0, { d with tables := [compL (mergeD d.tables).rows fl] }⟩) := HOK2.out hmc
  obtain ⟨hri, htf, hrl⟩ := HMO.out hmc
  have HRI : Hid (Rises (mergeD d.tables).rows) := hri
  have HTF : Hid (tabF (mergeD d.tables).rows = 0) := htf
  subst hmc
  clear HC2 HOK2 HMO hri htf
  generalize (mergeD d.tables).rows = rows at *
  go_wp2_with fail
  refine (l6Copy_u _ d _ (engnR.below HX.out (balloc hB2 _)) HWT.out).mono ?_
  rintro e w3 ⟨v3, F3, rfl, o3, b3⟩
  have s0 : w3.cell? ⟨w2.heap.size, 0, none⟩ = some (.int .i64 0) := cell_keep b3 (by simp [go_sem])
  have s1 : w3.cell? ⟨w2.heap.size, 1, none⟩ = some (.slice a5 rows.length c5) := cell_keep b3 (by simp [go_sem])
  have hb23 : Below w2.heap.size w2 w3 := bstep (by (repeat (first | exact Below.refl _ _ | assumption | refine Below.drew ?_ | refine balloc ?_ _ | refine bset ?_ (by simp; omega) _ | refine bset ?_ (by simp) _ | refine bstep ?_ (by assumption)))) b3
  have hz23 := b3.size
  simp only [World.size_alloc] at hz23
  replace r0 := cell_keep hb23 r0
  replace r1 := cell_keep hb23 r1
  replace r2 := cell_keep hb23 r2
  replace r3 := cell_keep hb23 r3
  replace r4 := cell_keep hb23 r4
  replace q0 := cell_keep hb23 q0
  replace q1 := cell_keep hb23 q1
  replace q2 := cell_keep hb23 q2
  replace q3 := cell_keep hb23 q3
  replace q4 := cell_keep hb23 q4
  replace q5 := cell_keep hb23 q5
  replace q6 := cell_keep hb23 q6
  obtain ⟨qf, qz⟩ := boxKeep ⟨qf, qz⟩ hb23
  have hB3 := bstep hB2 hb23
  have HO3 : Hid (engnR.O w3 w2.heap.size F3 v3 d) := engnR.base o3 (by simp)
  obtain ⟨p1, p2, p3, p4, k1, k2, k3, k4, rfl⟩ := engn_form (engnR.ofO o3)
  have HV6 : Hid (rowsR.V w3 (.slice a5 rows.length c5) rows) := rowsR.below HV5.out hb23
  clear o3 b3 hB2 HV5 r0 r1 r2 r3 r4
  have hn3 : rows.length ≤ 200 := hrl
  have zs3 : w2.heap.size < w3.heap.size := by omega
  have HCT : Hid (∀ W, Below w3.heap.size w3 W → Calls Tryz.prog 89 #[.slice a5 rows.length c5, .int .i64 fl] W fun e w' => ∃ a c F, e = .returned (.slice a (compL rows fl).length c) ∧ rowsR.O w' W.heap.size F (.slice a (compL rows fl).length c) (compL rows fl) ∧ Below W.heap.size W w') := fun W hW => by
    refine (l5Compact_any _ rows fl W (RowsV_below HV6.out.1 hW) HRI.out hn3).mono ?_
    rintro e w' ⟨v, rfl, ⟨⟨g, c, rfl⟩, ho⟩, hb⟩
    exact ⟨_, c, _, rfl, ⟨⟨ho, rfl⟩, fit_mem.2 (fun y hy => fit_mem.1 HV6.out.2 y ((compL_sub rows fl).subset hy))⟩, hb⟩
  clear HV6 HRI HTF
  generalize rows.length = lr at *
  go_wp2_with fail
  refine (HCT.out _ (by (repeat (first | exact Below.refl _ _ | assumption | refine Below.drew ?_ | refine balloc ?_ _ | refine bset ?_ (by simp; omega) _ | refine bset ?_ (by simp) _ | refine bstep ?_ (by assumption))))).mono ?_
  rintro e w4 hh
  obtain ⟨a6, c6, F6, rfl, o6, b6⟩ := hh
  have x0 : w4.cell? ⟨w3.heap.size, 0, none⟩ = some (.slice p1 d.log.synced.length k1) := cell_keep b6 (by simp [go_sem])
  have x1 : w4.cell? ⟨w3.heap.size, 1, none⟩ = some (.slice p2 d.log.loose.length k2) := cell_keep b6 (by simp [go_sem])
  have x2 : w4.cell? ⟨w3.heap.size, 2, none⟩ = some (.slice p3 d.mem.length k3) := cell_keep b6 (by simp [go_sem])
  have x3 : w4.cell? ⟨w3.heap.size, 3, none⟩ = some (.slice p4 d.tables.length k4) := cell_keep b6 (by simp [go_sem])
  have x4 : w4.cell? ⟨w3.heap.size, 4, none⟩ = some (.int .i64 d.next) := cell_keep b6 (by simp [go_sem])
  obtain ⟨xf, xz⟩ : (∀ o, w4.frozen? ⟨w3.heap.size, o, none⟩ = false) ∧ w3.heap.size < w4.heap.size := by
    have h := b6.size
    simp only [World.size_alloc] at h
    exact ⟨fun o => by rw [(bcell b6).2 _ _ (by simp)]; simp [go_sem], by omega⟩
  have hb34 : Below w3.heap.size w3 w4 := bstep (by (repeat (first | exact Below.refl _ _ | assumption | refine Below.drew ?_ | refine balloc ?_ _ | refine bset ?_ (by simp; omega) _ | refine bset ?_ (by simp) _ | refine bstep ?_ (by assumption)))) b6
  replace q0 := cell_keep hb34 q0
  replace q1 := cell_keep hb34 q1
  replace q2 := cell_keep hb34 q2
  replace q3 := cell_keep hb34 q3
  replace q4 := cell_keep hb34 q4
  replace q5 := cell_keep hb34 q5
  replace q6 := cell_keep hb34 q6
  obtain ⟨qf, qz4⟩ := boxKeep ⟨qf, qz⟩ hb34
  have hB4 := bstep hB3 hb34
  have HO6 : Hid (rowsR.O w4 (w3.heap.size + 1) F6 (.slice a6 (compL rows fl).length c6) (compL rows fl)) := rowsR.base o6 (by simp)
  have HO4 : Hid (engnR.O w4 w2.heap.size F3 (.agg #[.slice p1 d.log.synced.length k1, .slice p2 d.log.loose.length k2, .slice p3 d.mem.length k3, .slice p4 d.tables.length k4, .int .i64 d.next]) d) := engnR.keep HO3.out hb34
  have HF3 : Hid (∀ b, F3 b → b < w3.heap.size) := fun b hb => (engnR.rng HO3.out b hb).2
  have hB2z : w.heap.size ≤ w2.heap.size := by omega
  clear o6 b6 HCT HO3 hb34 hb23 hB3 s0 s1
  generalize hlc : (compL rows fl).length = lc at *
  have HLC : Hid ((compL rows fl).length = lc) := hlc
  clear hlc
  have hne : ¬ w.heap.size + 1 = w3.heap.size := by omega
  have hz5 : w.heap.size + 1 < w2.heap.size := by assumption
  go_wp2
  refine bodyPost_ret (v := .agg #[.int .i64 0, .int .i64 0, .slice p1 d.log.synced.length k1, .slice p2 d.log.loose.length k2, .slice p3 d.mem.length k3, .slice (some ⟨w4.heap.size, 0, none⟩) 1 1, .int .i64 d.next]) (by simp [results, Tryz.results30, go_sem, q0, q1, q2, q3, q4, q5, q6, qf, qz4, hne]) rfl ?_
  rw [HE.out]
  have hMm : Mod (fun b => b = w3.heap.size ∨ b = w.heap.size + 1) w4 ((((((((w4.setCell ⟨w3.heap.size, 3, none⟩ (.slice (some ⟨w4.heap.size, 0, none⟩) 1 1)).setCell ⟨w.heap.size + 1, 0, none⟩ (.int .i64 0)).setCell ⟨w.heap.size + 1, 1, none⟩ (.int .i64 0)).setCell ⟨w.heap.size + 1, 2, none⟩ (.slice p1 d.log.synced.length k1)).setCell ⟨w.heap.size + 1, 3, none⟩ (.slice p2 d.log.loose.length k2)).setCell ⟨w.heap.size + 1, 4, none⟩ (.slice p3 d.mem.length k3)).setCell ⟨w.heap.size + 1, 5, none⟩ (.slice (some ⟨w4.heap.size, 0, none⟩) 1 1)).setCell ⟨w.heap.size + 1, 6, none⟩ (.int .i64 d.next)) := mset7 (mset (Mod.refl _ _) ⟨w3.heap.size, 3, none⟩ _ (.inl rfl)) (.inr rfl) _ _ _ _ _ _ _
  have hsz : ((((((((w4.setCell ⟨w3.heap.size, 3, none⟩ (.slice (some ⟨w4.heap.size, 0, none⟩) 1 1)).setCell ⟨w.heap.size + 1, 0, none⟩ (.int .i64 0)).setCell ⟨w.heap.size + 1, 1, none⟩ (.int .i64 0)).setCell ⟨w.heap.size + 1, 2, none⟩ (.slice p1 d.log.synced.length k1)).setCell ⟨w.heap.size + 1, 3, none⟩ (.slice p2 d.log.loose.length k2)).setCell ⟨w.heap.size + 1, 4, none⟩ (.slice p3 d.mem.length k3)).setCell ⟨w.heap.size + 1, 5, none⟩ (.slice (some ⟨w4.heap.size, 0, none⟩) 1 1)).setCell ⟨w.heap.size + 1, 6, none⟩ (.int .i64 d.next)).heap.size = w4.heap.size := by simp
  generalize (((((((w4.setCell ⟨w3.heap.size, 3, none⟩ (.slice (some ⟨w4.heap.size, 0, none⟩) 1 1)).setCell ⟨w.heap.size + 1, 0, none⟩ (.int .i64 0)).setCell ⟨w.heap.size + 1, 1, none⟩ (.int .i64 0)).setCell ⟨w.heap.size + 1, 2, none⟩ (.slice p1 d.log.synced.length k1)).setCell ⟨w.heap.size + 1, 3, none⟩ (.slice p2 d.log.loose.length k2)).setCell ⟨w.heap.size + 1, 4, none⟩ (.slice p3 d.mem.length k3)).setCell ⟨w.heap.size + 1, 5, none⟩ (.slice (some ⟨w4.heap.size, 0, none⟩) 1 1)).setCell ⟨w.heap.size + 1, 6, none⟩ (.int .i64 d.next) = Wm at *
  have h6' := rowsR.mod HO6.out hMm (fun b hb e => by
    have := (rowsR.rng HO6.out b hb).1
    omega)
  have hTL := rowss_lit (base := w2.heap.size) h6' (by omega) (by omega)
  rw [hsz] at hTL
  obtain ⟨FE, hEN⟩ := eng_tabs HO4.out (hMm.alloc (.cells #[.slice a6 lc c6] 32)) (fun b hb e => by have := HF3.out b hb; have := (engnR.rng HO4.out b hb).1; omega) hTL (fun b hb h => by
    have := HF3.out b hb
    rcases h with h | h
    · omega
    · have := (rowsR.rng HO6.out b h).1
      omega)
  have hfin := engR_of (e := { d with tables := [compL rows fl] }) 0 0 hEN
  have hBm : Below w.heap.size w Wm := hMm.below hB4 hB4.size (fun b e => by omega)
  first | exact ⟨_, FE, rfl, engRR.base hfin hB2z, balloc hBm _⟩ | exact ⟨_, rfl, ⟨FE, engRR.base hfin hB2z⟩, balloc hBm _⟩
end Go.Proofs.YtdfapehonegeeaaGreat

/-
  Cells that are kept: many. (Written by program.)
-/
namespace Go.Proofs.YtdfapehonegeeaaGreat
open Go.RowKit
theorem keepN24 {w w' : World} {a0 : Addr} {x0 : Value} {a1 : Addr} {x1 : Value} {a2 : Addr} {x2 : Value} {a3 : Addr} {x3 : Value} {a4 : Addr} {x4 : Value} {a5 : Addr} {x5 : Value} {a6 : Addr} {x6 : Value} {a7 : Addr} {x7 : Value} {a8 : Addr} {x8 : Value} {a9 : Addr} {x9 : Value} {a10 : Addr} {x10 : Value} {a11 : Addr} {x11 : Value} {a12 : Addr} {x12 : Value} {a13 : Addr} {x13 : Value} {a14 : Addr} {x14 : Value} {a15 : Addr} {x15 : Value} {a16 : Addr} {x16 : Value} {a17 : Addr} {x17 : Value} {a18 : Addr} {x18 : Value} {a19 : Addr} {x19 : Value} {a20 : Addr} {x20 : Value} {a21 : Addr} {x21 : Value} {a22 : Addr} {x22 : Value} {a23 : Addr} {x23 : Value} (hb : Below w.heap.size w w') (g0 : w.cell? a0 = some x0) (g1 : w.cell? a1 = some x1) (g2 : w.cell? a2 = some x2) (g3 : w.cell? a3 = some x3) (g4 : w.cell? a4 = some x4) (g5 : w.cell? a5 = some x5) (g6 : w.cell? a6 = some x6) (g7 : w.cell? a7 = some x7) (g8 : w.cell? a8 = some x8) (g9 : w.cell? a9 = some x9) (g10 : w.cell? a10 = some x10) (g11 : w.cell? a11 = some x11) (g12 : w.cell? a12 = some x12) (g13 : w.cell? a13 = some x13) (g14 : w.cell? a14 = some x14) (g15 : w.cell? a15 = some x15) (g16 : w.cell? a16 = some x16) (g17 : w.cell? a17 = some x17) (g18 : w.cell? a18 = some x18) (g19 : w.cell? a19 = some x19) (g20 : w.cell? a20 = some x20) (g21 : w.cell? a21 = some x21) (g22 : w.cell? a22 = some x22) (g23 : w.cell? a23 = some x23) : Below w.heap.size w w' ∧ w'.cell? a0 = some x0 ∧ w'.cell? a1 = some x1 ∧ w'.cell? a2 = some x2 ∧ w'.cell? a3 = some x3 ∧ w'.cell? a4 = some x4 ∧ w'.cell? a5 = some x5 ∧ w'.cell? a6 = some x6 ∧ w'.cell? a7 = some x7 ∧ w'.cell? a8 = some x8 ∧ w'.cell? a9 = some x9 ∧ w'.cell? a10 = some x10 ∧ w'.cell? a11 = some x11 ∧ w'.cell? a12 = some x12 ∧ w'.cell? a13 = some x13 ∧ w'.cell? a14 = some x14 ∧ w'.cell? a15 = some x15 ∧ w'.cell? a16 = some x16 ∧ w'.cell? a17 = some x17 ∧ w'.cell? a18 = some x18 ∧ w'.cell? a19 = some x19 ∧ w'.cell? a20 = some x20 ∧ w'.cell? a21 = some x21 ∧ w'.cell? a22 = some x22 ∧ w'.cell? a23 = some x23 :=
  ⟨hb, cell_keep hb g0, cell_keep hb g1, cell_keep hb g2, cell_keep hb g3, cell_keep hb g4, cell_keep hb g5, cell_keep hb g6, cell_keep hb g7, cell_keep hb g8, cell_keep hb g9, cell_keep hb g10, cell_keep hb g11, cell_keep hb g12, cell_keep hb g13, cell_keep hb g14, cell_keep hb g15, cell_keep hb g16, cell_keep hb g17, cell_keep hb g18, cell_keep hb g19, cell_keep hb g20, cell_keep hb g21, cell_keep hb g22, cell_keep hb g23⟩
end Go.Proofs.YtdfapehonegeeaaGreat

/-
  What is handed in, read as data, is data in memory: rows and structs of rows.
-/
namespace Go.Proofs.YtdfapehonegeeaaGreat
open Go.ChangeShapes Go.WideShapes Go.ChangeAt Go.RowKit Go.Joins

theorem spot_none {W : World} {base k : Nat} {a : Addr} {cs : List Value} (hk : 0 < k) (hc : W.cells? base a k = some cs) : a.spot = none := by
  obtain ⟨hb, hl, hcell⟩ := World.cells?_some hc
  have q0 := hcell 0 hk
  obtain ⟨b, o, s⟩ := a
  cases s with
  | none => rfl
  | some s =>
    have : 0 < cs.length := by omega
    simp [Addr.add, World.cell?, this] at q0
    split at q0 <;> simp at q0
theorem add_plain (b o i : Nat) : (Addr.mk b o none).add i = ⟨b, o + i, none⟩ := by
  by_cases h : i = 0
  · subst h; simp [Addr.add]
  · simp [Addr.add, h]
theorem openRow {H : Type} {enc : TypeId × Value → H} {W : World} {sp : Nat → Bool} {held : Bool} {n : Nat} {v : Value} {y : DataW H × List MemPlace} {t e size : Nat} {α : Type} [Inhabited α] {q : List Value → α → Prop}
    (ht : Tryz.prog.underlying t = some (.slice e)) (hz : Tryz.prog.cellsOf e = size) (hs : 0 < size)
    (hq : ∀ n cs y, DataW.trod enc Tryz.prog W 0 sp held n e cs = some y → cs.length = size → ∃ x, q cs x) (h : DataW.trod enc Tryz.prog W 0 sp held n t [v] = some y) :
    ∃ (a : Option Addr) (cap : Nat) (xs : List α) (cs : Nat → List Value), v = .slice a xs.length cap ∧ xs.length ≤ cap ∧ cap ≤ maxLen ∧ ∀ i, i < xs.length → q (cs i) (xs.getD i default) ∧ (cs i).length = size ∧ ∃ b o, a = some ⟨b, o, none⟩ ∧ ∀ j, j < size → W.cell? ⟨b, o + i * size + j, none⟩ = (cs i)[j]? := by
  rcases Go.Deep.open_slice ht h with ⟨hcs, _⟩ | ⟨a, len, cap, m, n', D, Pl, hcs, hb, hl, hm, hmm, _, hc⟩
  · simp at hcs
    subst hcs
    exact ⟨none, 0, [], fun _ => [], rfl, by simp, by unfold maxLen; omega, fun i hi => by simp at hi⟩
  · simp at hcs
    subst hcs
    have hlm : len ≤ m := by rw [hmm]; split <;> omega
    rw [hz] at hc
    have h1 : ∀ i, i < len → ∃ z : List Value × α, q z.1 z.2 ∧ z.1.length = size ∧ ∃ b o, a = ⟨b, o, none⟩ ∧ ∀ j, j < size → W.cell? ⟨b, o + i * size + j, none⟩ = z.1[j]? := by
      intro i hi
      obtain ⟨cs', h1, h2⟩ := hc i (by omega)
      obtain ⟨_, hl', hcell⟩ := World.cells?_some h1
      obtain ⟨x, hx⟩ := hq _ _ _ h2 hl'
      obtain ⟨cs0, k1, _⟩ := hc 0 (by omega)
      have hsp := spot_none hs k1
      obtain ⟨b, o, s⟩ := a
      have hs0 : s = none := by simpa [Addr.add] using hsp
      subst hs0
      refine ⟨(cs', x), hx, hl', b, o, rfl, fun j hj => ?_⟩
      have := hcell j hj
      rw [add_plain, add_plain] at this
      exact this
    obtain ⟨f, hf⟩ := Go.Deep.choose_lt h1
    refine ⟨some a, cap, (List.range len).map (fun i => (f i).2), fun i => (f i).1, by simp, by simpa using hl, hm, fun i hi => ?_⟩
    simp at hi
    obtain ⟨g1, g2, b, o, rfl, g3⟩ := hf i hi
    have e : (List.map (fun i => (f i).2) (List.range len)).getD i default = (f i).2 := by simp [List.getD, hi]
    rw [e]
    exact ⟨g1, g2, b, o, rfl, g3⟩
theorem openN {H : Type} {enc : TypeId × Value → H} {W : World} {sp : Nat → Bool} {held : Bool} {n : Nat} {v : Value} {y : DataW H × List MemPlace} {t e size : Nat} {α : Type} [Inhabited α] {R : Rep α} {te : Nat} {lv : Value → List Value}
    (ht : Tryz.prog.underlying t = some (.slice e)) (hz : Tryz.prog.cellsOf e = size) (hs : 0 < size)
    (hq : ∀ n cs y, DataW.trod enc Tryz.prog W 0 sp held n e cs = some y → cs.length = size → ∃ x u, lv u = cs ∧ R.V W u x) (h : DataW.trod enc Tryz.prog W 0 sp held n t [v] = some y) :
    ∃ xs : List α, (nRep R te size lv).V W v xs := by
  obtain ⟨a, cap, xs, cs, rfl, h1, h2, h3⟩ := openRow (q := fun cs x => ∃ u, lv u = cs ∧ R.V W u x) ht hz hs hq h
  refine ⟨xs, a, cap, rfl, h1, h2, fun i hi => ?_⟩
  obtain ⟨⟨u, g1, g2⟩, g3, b, o, g4, g5⟩ := h3 i hi
  exact ⟨b, o, u, g4, by rw [g1]; exact g3, fun j hj => by rw [g1]; exact g5 j hj, g2⟩
end Go.Proofs.YtdfapehonegeeaaGreat

