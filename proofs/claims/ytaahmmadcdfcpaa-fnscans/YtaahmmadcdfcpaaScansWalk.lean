/-
  A scan tells what reading tells: the walk.
-/
import Derived.Test.YtaahmmadcdfcpaaDsc
import Derived.Test.YtaahmmadcdfcpaaScanI
import Derived.Test.YtaahmmadcdfcpaaScanS
import Derived.Test.YtaahmmadcdfcpaaKeyI
import Derived.Test.YtaahmmadcdfcpaaGetI
import Derived.Test.YtaahmmadcdfcpaaConv
namespace Go.Proofs.Ytaahmmadcdfcpaa
open Go.RowKit
set_option linter.unusedSectionVars false
variable [DecidableEq Logg] [Inhabited Logg] [DecidableEq LoggR] [Inhabited LoggR] [DecidableEq BytesR] [Inhabited BytesR] [DecidableEq RecsR] [Inhabited RecsR] [DecidableEq Leg] [Inhabited Leg] [DecidableEq Rw] [Inhabited Rw] [DecidableEq TabR] [Inhabited TabR] [DecidableEq KeysR] [Inhabited KeysR]
set_option linter.unusedVariables false
set_option linter.unusedSimpArgs false
attribute [local go_sem ↓] Go.wp_at_zero Go.wp_at_succ

namespace scansLaw
theorem scanTo_app (xs : List Rw) (p : ByteArray) (v : Int) (a b : List ByteArray) : scanTo xs p v (a ++ b) = scanTo xs p v a ++ scanTo xs p v b := by
  unfold scanTo
  rw [List.filter_append, List.filterMap_append]
theorem scan_hit {xs : List Rw} {p q : ByteArray} {v : Int} {ks : List ByteArray} {k : Nat} {rr : Rw} (ht : ks.take k ++ [q] = ks.take (k + 1)) (hp : hasP q p = true) (hr : getRow xs q v = some rr) :
    (scanTo xs p v (ks.take k)).length < (scanTo xs p v ks).length ∧ (scanTo xs p v ks).getD (scanTo xs p v (ks.take k)).length default = rr ∧ (scanTo xs p v (ks.take (k + 1))).length = (scanTo xs p v (ks.take k)).length + 1 := by
  have e1 : scanTo xs p v (ks.take (k + 1)) = scanTo xs p v (ks.take k) ++ [rr] := by rw [← ht]; exact scanTo_hit hp hr
  have e : scanTo xs p v ks = (scanTo xs p v (ks.take k) ++ [rr]) ++ scanTo xs p v (ks.drop (k + 1)) := by
    rw [← e1, ← scanTo_app, List.take_append_drop]
  refine ⟨by rw [e]; simp, ?_, by rw [e1]; simp⟩
  rw [e]
  simp [List.getD]
theorem scan_le {xs : List Rw} {p : ByteArray} {v : Int} {ks : List ByteArray} {k : Nat} : (scanTo xs p v (ks.take k)).length ≤ (scanTo xs p v ks).length := by
  have e : scanTo xs p v ks = scanTo xs p v (ks.take k) ++ scanTo xs p v (ks.drop k) := by rw [← scanTo_app, List.take_append_drop]
  rw [e]
  simp
theorem get_some {xs : List Rw} {k : ByteArray} {v : Int} {r : Rw} (h : getRow xs k v = some r) : r.key = k ∧ r.gone = false := by
  unfold getRow at h
  rw [Option.filter_eq_some_iff] at h
  exact ⟨(getAt_key h.1).1, by simpa using h.2⟩

set_option maxRecDepth 20000 in
set_option maxHeartbeats 8000000 in
theorem walk (x0 : Value) (d0 : List Byte) (w : World) (hx0 : bytesR.V w x0 d0) :
    Calls Try.prog 3 #[x0] w fun e w' => e = .returned (.bool true) ∧ Below w.heap.size w w' := by
  have hX0 := hx0
  obtain ⟨ax, cx, rfl⟩ := bytes_form hx0
  go_enter Try.func3, Try.ntmps3
  go_wp2_with fail
  refine (lwBig_any _ d0 _ hX0).mono ?_
  rintro e w' ⟨rfl, hw⟩
  obtain rfl : w = w' := hw.symm
  by_cases hbig : 1048576 < d0.length
  · rw [decide_eq_true hbig]
    go_wp2
    go_ret
    exact ⟨rfl, Below.refl _ _⟩
  rw [decide_eq_false hbig]
  go_wp2_with fail
  refine (drawScan_any _ d0 _ hX0 (by omega)).mono ?_
  rintro e w1 ⟨v1, xs, p, fl, rfl, hV, hl, hSm, hps, hb1⟩
  obtain ⟨av, cv, rfl⟩ := rows_form hV
  obtain ⟨n, hn⟩ : ∃ n, n = xs.length := ⟨_, rfl⟩
  have HN : Hid (xs.length = n) := hn.symm
  have HC : Hid (∀ W, Below w1.heap.size w1 W → Calls Try.prog 8 #[.slice av n cv, .string p, .int .i64 fl] W fun e w' => ∃ u F, e = .returned u ∧ tabRR.O w' W.heap.size F u (scanD xs p fl) ∧ Below W.heap.size W w') := fun W hW => by rw [hn]; exact implScan_u _ xs p fl W (rowsR.below hV hW)
  have HCS : Hid (∀ W, Below w1.heap.size w1 W → Calls Try.prog 9 #[.slice av n cv, .string p, .int .i64 fl] W fun e w' => ∃ u F, e = .returned u ∧ tabRR.O w' W.heap.size F u (scanD xs p fl) ∧ Below W.heap.size W w') := fun W hW => by rw [hn]; exact specScan_u _ xs p fl W (rowsR.below hV hW)
  have HK : Hid (∀ W, Below w1.heap.size w1 W → Calls Try.prog 10 #[.slice av n cv] W fun e w' => ∃ u F, e = .returned u ∧ keysRR.O w' W.heap.size F u (keysD xs) ∧ Below W.heap.size W w') := fun W hW => by rw [hn]; exact implKeysOf_u _ xs W (rowsR.below hV hW)
  have HKS : Hid (∀ W, Below w1.heap.size w1 W → Calls Try.prog 12 #[.slice av n cv] W fun e w' => ∃ u F, e = .returned u ∧ keysRR.O w' W.heap.size F u (keysD xs) ∧ Below W.heap.size W w') := fun W hW => by rw [hn]; exact specKeysOf_u _ xs W (rowsR.below hV hW)
  have HG : Hid (∀ W, Below w1.heap.size w1 W → ∀ k v, Calls Try.prog 11 #[.slice av n cv, .string k, .int .i64 v] W fun e w' => e = .returned (.agg #[.int .i64 (getCode xs k v), .string (getText xs k v)]) ∧ Below W.heap.size W w') := fun W hW k v => by rw [hn]; exact implGetRow_any _ xs k v W (rowsR.below hV hW).1
  rw [← hn]
  clear hV hn hX0 hx0
  go_wp2_with fail
  refine (HC.out _ (by (repeat (first | exact Below.refl _ _ | assumption | refine Below.drew ?_ | refine balloc ?_ _ | refine bset ?_ (by simp; omega) _ | refine bset ?_ (by simp) _ | refine bstep ?_ (by assumption))))).mono ?_
  rintro e w2 ⟨u2, F2, rfl, ho2, hb2⟩
  have hB2 : Below w1.heap.size w1 w2 := by (repeat (first | exact Below.refl _ _ | assumption | refine Below.drew ?_ | refine balloc ?_ _ | refine bset ?_ (by simp; omega) _ | refine bset ?_ (by simp) _ | refine bstep ?_ (by assumption)))
  have hV2 := tabRR.ofO ho2
  clear ho2 HC
  by_cases ht : tabF xs = 0
  rotate_left
  · have hD : scanD xs p fl = ⟨tabF xs, []⟩ := by unfold scanD; rw [if_neg ht]
    have HD : Hid (scanD xs p fl = ⟨tabF xs, []⟩) := hD
    rw [hD] at hV2
    obtain ⟨a2, c2, rfl⟩ := tabR_form hV2
    clear hD hV2
    obtain ⟨q, hq⟩ : ∃ q, tabF xs = q := ⟨_, rfl⟩
    rw [hq] at ht HD ⊢
    clear hq
    dsimp only [List.length_nil]
    go_wp2
    refine wp_region_noPanic ?_
    refine region_upto (fun W => Below w1.heap.size w1 W ∧ W.cell? ⟨w2.heap.size, 0, none⟩ = some (.int .i64 q)) 8 (by kernel_rfl) ⟨by (repeat (first | exact Below.refl _ _ | assumption | refine Below.drew ?_ | refine balloc ?_ _ | refine bset ?_ (by simp; omega) _ | refine bset ?_ (by simp) _ | refine bstep ?_ (by assumption))), by simp [go_sem]⟩ (fun hS => ?_)
    refine upto_take (i := 0) (v := ?_) rfl (by kernel_rfl) (by kernel_rfl) (by kernel_rfl) (by kernel_rfl) (fun _ _ _ h => h) (by rfl) hS ?_ ?_
    rotate_left
    · intro wS hSw
      try dsimp only at hSw
      first | (go_simp; done) | (go_simp; with_reducible rfl)
    try simp only [Act.put, List.getElem_toArray, List.getElem_cons_zero, List.getElem_cons_succ, List.setIfInBounds_toArray, List.set_cons_zero, List.set_cons_succ]
    refine upto_take (i := 1) (v := ?_) rfl (by kernel_rfl) (by kernel_rfl) (by kernel_rfl) (by kernel_rfl) (fun _ _ _ h => h) (by rfl) hS ?_ ?_
    rotate_left
    · intro wS hSw
      try dsimp only at hSw
      first | (go_simp; done) | (go_simp; with_reducible rfl)
    try simp only [Act.put, List.getElem_toArray, List.getElem_cons_zero, List.getElem_cons_succ, List.setIfInBounds_toArray, List.set_cons_zero, List.set_cons_succ]
    refine upto_take (i := 2) (v := ?_) rfl (by kernel_rfl) (by kernel_rfl) (by kernel_rfl) (by kernel_rfl) (fun _ _ _ h => h) (by rfl) hS ?_ ?_
    rotate_left
    · intro wS hSw
      try dsimp only at hSw
      first | (go_simp; done) | (go_simp; with_reducible rfl)
    try simp only [Act.put, List.getElem_toArray, List.getElem_cons_zero, List.getElem_cons_succ, List.setIfInBounds_toArray, List.set_cons_zero, List.set_cons_succ]
    refine upto_take (i := 5) (v := ?_) rfl (by kernel_rfl) (by kernel_rfl) (by kernel_rfl) (by kernel_rfl) (fun _ _ _ h => h) (by rfl) hS ?_ ?_
    rotate_left
    · intro wS hSw
      try dsimp only at hSw
      first | (go_simp; done) | (go_simp; with_reducible rfl)
    try simp only [Act.put, List.getElem_toArray, List.getElem_cons_zero, List.getElem_cons_succ, List.setIfInBounds_toArray, List.set_cons_zero, List.set_cons_succ]
    refine upto_take (i := 6) (v := ?_) rfl (by kernel_rfl) (by kernel_rfl) (by kernel_rfl) (by kernel_rfl) (fun _ _ _ h => h) (by rfl) hS ?_ ?_
    rotate_left
    · intro wS hSw
      try dsimp only at hSw
      first | (go_simp; done) | (go_simp; with_reducible rfl)
    try simp only [Act.put, List.getElem_toArray, List.getElem_cons_zero, List.getElem_cons_succ, List.setIfInBounds_toArray, List.set_cons_zero, List.set_cons_succ]
    refine upto_step (i := 3) (by kernel_rfl) rfl ?_
    intro K hK
    go_simp
    refine (HCS.out _ hS.1).mono ?_
    rintro e w3 ⟨u3, F3, rfl, ho3, hb3⟩
    rw [HD.out] at ho3
    obtain ⟨a3, c3, rfl⟩ := tabR_form (tabRR.ofO ho3)
    have hS3 : (fun W => Below w1.heap.size w1 W ∧ W.cell? ⟨w2.heap.size, 0, none⟩ = some (.int .i64 q)) w3 := ⟨bstep hS.1 hb3, cell_keep hb3 hS.2⟩
    have hfd : ∀ w : World, (Instr.field 28 (.agg #[.int .i64 q, .slice a3 0 c3]) 0).run Try.prog w = .ok (.int .i64 q) w := fun _ => by kernel_rfl
    refine hK _ _ (fun _ => hS3) ?_
    clear hK K ho3 hb3
    dsimp only [List.length_nil]
    try simp only [Act.put, List.getElem_toArray, List.getElem_cons_zero, List.getElem_cons_succ, List.setIfInBounds_toArray, List.set_cons_zero, List.set_cons_succ]
    refine upto_take (i := 4) (v := (.int .i64 q)) rfl (by kernel_rfl) (by kernel_rfl) (by kernel_rfl) (by kernel_rfl) (fun _ _ _ h => h) (by rfl) hS3 ?_ ?_
    · intro wS hSw
      try dsimp only at hSw
      go_simp
    try simp only [Act.put, List.getElem_toArray, List.getElem_cons_zero, List.getElem_cons_succ, List.setIfInBounds_toArray, List.set_cons_zero, List.set_cons_succ]
    refine upto_take (i := 7) (v := (.bool true)) rfl (by kernel_rfl) (by kernel_rfl) (by kernel_rfl) (by kernel_rfl) (fun _ _ _ h => h) (by rfl) hS3 ?_ ?_
    · intro wS hSw
      try dsimp only at hSw
      go_simp
    try simp only [Act.put, List.getElem_toArray, List.getElem_cons_zero, List.getElem_cons_succ, List.setIfInBounds_toArray, List.set_cons_zero, List.set_cons_succ]
    refine upto_step (i := 8) (by kernel_rfl) rfl ?_
    intro K hK
    go_simp
    refine hK _ _ (fun h => absurd rfl h) ?_
    clear hK K
    refine upto_done (by kernel_rfl) ?_
    refine NoPanic.normal ?_
    have hB3 := hS3.1
    clear hS hS3
    go_wp2
    go_ret
    exact ⟨rfl, by (repeat (first | exact Below.refl _ _ | assumption | refine Below.drew ?_ | refine balloc ?_ _ | refine bset ?_ (by simp; omega) _ | refine bset ?_ (by simp) _ | refine bstep ?_ (by assumption)))⟩
  have hD : scanD xs p fl = ⟨0, scanTo xs p fl (keysL xs)⟩ := by unfold scanD; rw [if_pos ht]
  have hKD : keysD xs = ⟨0, keysL xs⟩ := by unfold keysD; rw [if_pos ht]
  have HGC : Hid (∀ k, (getRow xs k fl = none → getCode xs k fl = 4 ∧ getText xs k fl = ⟨#[]⟩) ∧ (∀ r, getRow xs k fl = some r → getCode xs k fl = 0 ∧ getText xs k fl = r.val)) := fun k => by
    refine ⟨fun h => ?_, fun r h => ?_⟩ <;> (unfold getCode getText; rw [if_pos ht, if_pos ht, h]; exact ⟨rfl, rfl⟩)
  have hnk := keysTo_le xs xs.length
  have HNK : Hid ((keysL xs).length ≤ 201) := by rw [Hid]; unfold keysL; omega
  rw [hKD] at HK HKS
  rw [hD] at hV2
  clear hD hKD HCS hnk ht
  generalize keysL xs = ks at *
  have HLE : Hid (∀ k, (scanTo xs p fl (ks.take k)).length ≤ (scanTo xs p fl ks).length) := fun k => scan_le
  have HTK : Hid (∀ k, k < ks.length → ks.take k ++ [ks.getD k default] = ks.take (k + 1)) := fun k hk => take_snoc ks hk
  have HHIT : Hid (∀ k q rr, ks.take k ++ [q] = ks.take (k + 1) → hasP q p = true → getRow xs q fl = some rr → (scanTo xs p fl (ks.take k)).length < (scanTo xs p fl ks).length ∧ (scanTo xs p fl ks).getD (scanTo xs p fl (ks.take k)).length default = rr ∧ (scanTo xs p fl (ks.take (k + 1))).length = (scanTo xs p fl (ks.take k)).length + 1) := fun k q rr h1 h2 h3 => scan_hit h1 h2 h3
  have HRL : Hid ((scanTo xs p fl ks).length ≤ ks.length) := scanTo_le xs p fl ks
  have HEND : Hid (ks.take ks.length = ks) := List.take_length
  obtain ⟨D, hDD⟩ : ∃ D, D = scanTo xs p fl ks := ⟨_, rfl⟩
  rw [← hDD] at hV2 HLE HHIT HRL
  obtain ⟨R, hR⟩ : ∃ R, R = D.length := ⟨_, rfl⟩
  obtain ⟨m, hm⟩ : ∃ m, m = ks.length := ⟨_, rfl⟩
  obtain ⟨a2, c2, rfl⟩ := tabR_form hV2
  have HVC : Hid (RowsV w2 (.slice a2 R c2) D) := by
    obtain ⟨u, e, h⟩ := hV2
    simp only [Value.agg.injEq, Array.mk.injEq, List.cons.injEq, and_true, true_and] at e
    rw [Hid, hR, e]
    exact h.1
  rw [← hm] at HNK HTK HRL HEND
  rw [← hR] at HLE HHIT HRL ⊢
  have hR1 := HRL.out
  have hm1 := HNK.out
  have HRR : Hid (D.length = R) := hR.symm
  have HSC : Hid (scanTo xs p fl ks = D) := hDD.symm
  have HMM : Hid (ks.length = m) := hm.symm
  have HROW : Hid (∀ j, j < R → ∃ b o, a2 = some ⟨b, o, none⟩ ∧ rowCells w2 b (o + j * 4) (D.getD j default)) := fun j hj => by
    obtain ⟨a9, c9, e9, _, _, h9⟩ := HVC.out
    simp only [Value.slice.injEq] at e9
    rw [e9.1]
    exact h9 j (by rw [HRR.out]; exact hj)
  clear hV2 hR hm hDD HVC
  go_wp2_with fail
  refine (HK.out _ (by (repeat (first | exact Below.refl _ _ | assumption | refine Below.drew ?_ | refine balloc ?_ _ | refine bset ?_ (by simp; omega) _ | refine bset ?_ (by simp) _ | refine bstep ?_ (by assumption))))).mono ?_
  rintro e w3 ⟨u3, F3, rfl, ho3, hb3⟩
  have hV3 := keysRR.ofO ho3
  obtain ⟨a3, c3, rfl⟩ := keysR_form hV3
  have HKC : Hid (∀ j, j < m → ∃ b o, a3 = some ⟨b, o, none⟩ ∧ w3.cell? ⟨b, o + j, none⟩ = some (.string (ks.getD j default))) := fun j hj => by
    obtain ⟨u, e, h⟩ := hV3
    simp only [Value.agg.injEq, Array.mk.injEq, List.cons.injEq, and_true, true_and] at e
    obtain ⟨a9, c9, e9, _, _, h9⟩ := h
    rw [e9] at e
    simp only [Value.slice.injEq] at e
    rw [e.1]
    exact h9 j (by rw [HMM.out]; exact hj)
  have r0 : w3.cell? ⟨w2.heap.size, 0, none⟩ = some (.int .i64 0) := cell_keep hb3 (by simp [go_sem])
  have r1 : w3.cell? ⟨w2.heap.size, 1, none⟩ = some (.slice a2 R c2) := cell_keep hb3 (by simp [go_sem])
  have hB3 : Below w2.heap.size w2 w3 := by (repeat (first | exact Below.refl _ _ | assumption | refine Below.drew ?_ | refine balloc ?_ _ | refine bset ?_ (by simp; omega) _ | refine bset ?_ (by simp) _ | refine bstep ?_ (by assumption)))
  clear ho3 hV3 hb3 HK
  dsimp only
  rw [HMM.out]
  go_wp2
  go_loopw [7, 9] (fun nn ii W => ∃ k N : Nat, k ≤ m ∧ N ≤ R ∧ ii = .int .i64 k ∧ nn = .int .i64 N ∧ Hid ((scanTo xs p fl (ks.take k)).length = N) ∧ Below w3.heap.size w3 W ∧ W.cell? ⟨w3.heap.size, 1, none⟩ = some (.slice a3 m c3)) (fun _ ii _ => m - (intOf ii).toNat)
  case atStart => exact ⟨0, 0, by omega, by omega, rfl, rfl, rfl, by (repeat (first | exact Below.refl _ _ | assumption | refine Below.drew ?_ | refine balloc ?_ _ | refine bset ?_ (by simp; omega) _ | refine bset ?_ (by simp) _ | refine bstep ?_ (by assumption))), by simp [go_sem]⟩
  case round =>
    obtain ⟨k, N, hk, hNR, rfl, rfl, HN1, hbr, hkb⟩ := hrel
    by_cases hkm : k < m
    · have hk' : (k : Int) < m := by omega
      have hk0 : (0 : Int) ≤ k := by omega
      have hwk : IntKind.i64.wrap ((k : Int) + 1) = (k : Int) + 1 := wrapI _ (by omega) (by omega)
      have hwn : IntKind.i64.wrap ((N : Int) + 1) = (N : Int) + 1 := wrapI _ (by omega) (by omega)
      obtain ⟨b, o, rfl, hc0⟩ := HKC.out k hkm
      have hT := HTK.out k hkm
      obtain ⟨q, hq⟩ : ∃ q, q = ks.getD k default := ⟨_, rfl⟩
      rw [← hq] at hc0 hT
      have HT : Hid (ks.take k ++ [q] = ks.take (k + 1)) := hT
      clear hq hT
      have hcq := cell_keep hbr hc0
      have r1' := cell_keep hbr r1
      go_wp2_with fail
      refine (HG.out _ (bstep (bstep hB2 hB3) hbr) _ _).mono ?_
      rintro e w5 ⟨rfl, hb5⟩
      have hB5 : Below w3.heap.size w3 w5 := bstep hbr hb5
      replace hkb := cell_keep hb5 hkb
      replace hcq := cell_keep hb5 hcq
      replace r1' := cell_keep hb5 r1'
      have l1 := World.block_lt_of_cell? _ _ hkb
      have l2 := World.block_lt_of_cell? _ _ hcq
      have l3 := World.block_lt_of_cell? _ _ r1'
      dsimp only at l1 l2 l3
      clear hbr hb5
      cases hg : getRow xs q fl with
      | none =>
        rw [((HGC.out q).1 hg).1, ((HGC.out q).1 hg).2]
        have HN2 : Hid ((scanTo xs p fl (ks.take (k + 1))).length = N) := by rw [Hid, ← HT.out, scanTo_none hg]; exact HN1.out
        clear hg
        go_wp2
        exact ⟨⟨k + 1, N, by omega, hNR, by go_num, rfl, HN2, by (repeat (first | exact Below.refl _ _ | assumption | refine Below.drew ?_ | refine balloc ?_ _ | refine bset ?_ (by simp; omega) _ | refine bset ?_ (by simp) _ | refine bstep ?_ (by assumption))), cell_keep (by (repeat (first | exact Below.refl _ _ | assumption | refine Below.drew ?_ | refine balloc ?_ _ | refine bset ?_ (by simp; omega) _ | refine bset ?_ (by simp) _ | refine bstep ?_ (by assumption)))) hkb⟩, by simp [intOf]; omega⟩
      | some rr =>
        rw [((HGC.out q).2 rr hg).1, ((HGC.out q).2 rr hg).2]
        by_cases hsz : p.size ≤ q.size
        · by_cases hpre : (q.extract 0 p.size).toList = p.toList
          · obtain ⟨g1, g2, g3⟩ := HHIT.out k q rr HT.out (by unfold hasP; simp [hsz, hpre]) hg
            obtain ⟨e1, e2⟩ := get_some hg
            rw [HN1.out] at g1 g2 g3
            have HN2 : Hid ((scanTo xs p fl (ks.take (k + 1))).length = N + 1) := g3
            obtain ⟨b2, o2, rfl, hr2⟩ := HROW.out N g1
            rw [g2] at hr2
            obtain ⟨p0, _, p2, p3⟩ := rowCells_below (bstep hB3 hB5) hr2
            have l4 := World.block_lt_of_cell? _ _ p0
            dsimp only at l4
            rw [e1] at p0
            rw [e2] at p3
            have s1 : ¬ ((q.size : Int) < (p.size : Int)) := by omega
            have s2 : (p.size : Int) ≤ (q.size : Int) := by omega
            have s3 : (0 : Int) ≤ (p.size : Int) := by omega
            have s4 : ¬ ((R : Int) ≤ (N : Int)) := by omega
            have s5 : (N : Int) < (R : Int) := by omega
            have s6 : (0 : Int) ≤ (N : Int) := by omega
            obtain ⟨tv, htv⟩ : ∃ tv, rr.val = tv := ⟨_, rfl⟩
            rw [htv] at p2 ⊢
            clear hr2 g2 g3 hg e1 e2 htv HHIT
            go_wp2
            refine wp_region_noPanic ?_
            refine region_upto (fun W => Below w5.heap.size w5 W ∧ W.cell? ⟨w2.heap.size, 1, none⟩ = some (.slice (some ⟨b2, o2, none⟩) R c2) ∧ W.cell? ⟨b2, o2 + N * 4, none⟩ = some (.string q) ∧ W.cell? ⟨b2, o2 + N * 4 + 2, none⟩ = some (.string tv) ∧ W.cell? ⟨b2, o2 + N * 4 + 3, none⟩ = some (.bool false) ∧ W.cell? ⟨w5.heap.size, 1, none⟩ = some (.string tv)) 34 (by kernel_rfl) ⟨by (repeat (first | exact Below.refl _ _ | assumption | refine Below.drew ?_ | refine balloc ?_ _ | refine bset ?_ (by simp; omega) _ | refine bset ?_ (by simp) _ | refine bstep ?_ (by assumption))), cell_keep (by (repeat (first | exact Below.refl _ _ | assumption | refine Below.drew ?_ | refine balloc ?_ _ | refine bset ?_ (by simp; omega) _ | refine bset ?_ (by simp) _ | refine bstep ?_ (by assumption)))) r1', cell_keep (by (repeat (first | exact Below.refl _ _ | assumption | refine Below.drew ?_ | refine balloc ?_ _ | refine bset ?_ (by simp; omega) _ | refine bset ?_ (by simp) _ | refine bstep ?_ (by assumption)))) p0, cell_keep (by (repeat (first | exact Below.refl _ _ | assumption | refine Below.drew ?_ | refine balloc ?_ _ | refine bset ?_ (by simp; omega) _ | refine bset ?_ (by simp) _ | refine bstep ?_ (by assumption)))) p2, cell_keep (by (repeat (first | exact Below.refl _ _ | assumption | refine Below.drew ?_ | refine balloc ?_ _ | refine bset ?_ (by simp; omega) _ | refine bset ?_ (by simp) _ | refine bstep ?_ (by assumption)))) p3, by simp [go_sem]⟩ (fun hS => ?_)
            refine upto_takeN (i := 0) (v := ?_) rfl (by kernel_rfl) (by kernel_rfl) (by kernel_rfl) (by kernel_rfl) (fun _ _ _ h => h) (by rfl) hS ?_ ?_
            rotate_left
            · intro wS hSw
              try dsimp only at hSw
              first | (go_simp; done) | (go_simp; with_reducible rfl)
            try simp only [Act.put, List.getElem_toArray, List.getElem_cons_zero, List.getElem_cons_succ, List.setIfInBounds_toArray, List.set_cons_zero, List.set_cons_succ]
            refine upto_takeN (i := 1) (v := ?_) rfl (by kernel_rfl) (by kernel_rfl) (by kernel_rfl) (by kernel_rfl) (fun _ _ _ h => h) (by rfl) hS ?_ ?_
            rotate_left
            · intro wS hSw
              try dsimp only at hSw
              first | (go_simp; done) | (go_simp; with_reducible rfl)
            try simp only [Act.put, List.getElem_toArray, List.getElem_cons_zero, List.getElem_cons_succ, List.setIfInBounds_toArray, List.set_cons_zero, List.set_cons_succ]
            refine upto_takeN (i := 2) (v := ?_) rfl (by kernel_rfl) (by kernel_rfl) (by kernel_rfl) (by kernel_rfl) (fun _ _ _ h => h) (by rfl) hS ?_ ?_
            rotate_left
            · intro wS hSw
              try dsimp only at hSw
              first | (go_simp; done) | (go_simp; with_reducible rfl)
            try simp only [Act.put, List.getElem_toArray, List.getElem_cons_zero, List.getElem_cons_succ, List.setIfInBounds_toArray, List.set_cons_zero, List.set_cons_succ]
            refine upto_takeN (i := 3) (v := ?_) rfl (by kernel_rfl) (by kernel_rfl) (by kernel_rfl) (by kernel_rfl) (fun _ _ _ h => h) (by rfl) hS ?_ ?_
            rotate_left
            · intro wS hSw
              try dsimp only at hSw
              first | (go_simp; done) | (go_simp; with_reducible rfl)
            try simp only [Act.put, List.getElem_toArray, List.getElem_cons_zero, List.getElem_cons_succ, List.setIfInBounds_toArray, List.set_cons_zero, List.set_cons_succ]
            refine upto_takeN (i := 4) (v := (.bool false)) rfl (by kernel_rfl) (by kernel_rfl) (by kernel_rfl) (by kernel_rfl) (fun _ _ _ h => h) (by rfl) hS ?_ ?_
            · intro wS hSw
              try dsimp only at hSw
              go_simp
            try simp only [Act.put, List.getElem_toArray, List.getElem_cons_zero, List.getElem_cons_succ, List.setIfInBounds_toArray, List.set_cons_zero, List.set_cons_succ]
            refine upto_takeN (i := 5) (v := (.bool false)) rfl (by kernel_rfl) (by kernel_rfl) (by kernel_rfl) (by kernel_rfl) (fun _ _ _ h => h) (by rfl) hS ?_ ?_
            · intro wS hSw
              try dsimp only at hSw
              go_simp
            try simp only [Act.put, List.getElem_toArray, List.getElem_cons_zero, List.getElem_cons_succ, List.setIfInBounds_toArray, List.set_cons_zero, List.set_cons_succ]
            refine upto_takeN (i := 6) (v := ?_) rfl (by kernel_rfl) (by kernel_rfl) (by kernel_rfl) (by kernel_rfl) (fun _ _ _ h => h) (by rfl) hS ?_ ?_
            rotate_left
            · intro wS hSw
              try dsimp only at hSw
              first | (go_simp; done) | (go_simp; with_reducible rfl)
            try simp only [Act.put, List.getElem_toArray, List.getElem_cons_zero, List.getElem_cons_succ, List.setIfInBounds_toArray, List.set_cons_zero, List.set_cons_succ]
            refine upto_takeN (i := 7) (v := ?_) rfl (by kernel_rfl) (by kernel_rfl) (by kernel_rfl) (by kernel_rfl) (fun _ _ _ h => h) (by rfl) hS ?_ ?_
            rotate_left
            · intro wS hSw
              try dsimp only at hSw
              first | (go_simp; done) | (go_simp; with_reducible rfl)
            try simp only [Act.put, List.getElem_toArray, List.getElem_cons_zero, List.getElem_cons_succ, List.setIfInBounds_toArray, List.set_cons_zero, List.set_cons_succ]
            refine upto_takeN (i := 8) (v := ?_) rfl (by kernel_rfl) (by kernel_rfl) (by kernel_rfl) (by kernel_rfl) (fun _ _ _ h => h) (by rfl) hS ?_ ?_
            rotate_left
            · intro wS hSw
              try dsimp only at hSw
              first | (go_simp; done) | (go_simp; with_reducible rfl)
            try simp only [Act.put, List.getElem_toArray, List.getElem_cons_zero, List.getElem_cons_succ, List.setIfInBounds_toArray, List.set_cons_zero, List.set_cons_succ]
            refine upto_takeN (i := 9) (v := ?_) rfl (by kernel_rfl) (by kernel_rfl) (by kernel_rfl) (by kernel_rfl) (fun _ _ _ h => h) (by rfl) hS ?_ ?_
            rotate_left
            · intro wS hSw
              try dsimp only at hSw
              first | (go_simp; done) | (go_simp; with_reducible rfl)
            try simp only [Act.put, List.getElem_toArray, List.getElem_cons_zero, List.getElem_cons_succ, List.setIfInBounds_toArray, List.set_cons_zero, List.set_cons_succ]
            refine upto_takeN (i := 10) (v := ?_) rfl (by kernel_rfl) (by kernel_rfl) (by kernel_rfl) (by kernel_rfl) (fun _ _ _ h => h) (by rfl) hS ?_ ?_
            rotate_left
            · intro wS hSw
              try dsimp only at hSw
              first | (go_simp; done) | (go_simp; with_reducible rfl)
            try simp only [Act.put, List.getElem_toArray, List.getElem_cons_zero, List.getElem_cons_succ, List.setIfInBounds_toArray, List.set_cons_zero, List.set_cons_succ]
            refine upto_takeN (i := 11) (v := ?_) rfl (by kernel_rfl) (by kernel_rfl) (by kernel_rfl) (by kernel_rfl) (fun _ _ _ h => h) (by rfl) hS ?_ ?_
            rotate_left
            · intro wS hSw
              try dsimp only at hSw
              first | (go_simp; done) | (go_simp; with_reducible rfl)
            try simp only [Act.put, List.getElem_toArray, List.getElem_cons_zero, List.getElem_cons_succ, List.setIfInBounds_toArray, List.set_cons_zero, List.set_cons_succ]
            refine upto_takeN (i := 12) (v := ?_) rfl (by kernel_rfl) (by kernel_rfl) (by kernel_rfl) (by kernel_rfl) (fun _ _ _ h => h) (by rfl) hS ?_ ?_
            rotate_left
            · intro wS hSw
              try dsimp only at hSw
              first | (go_simp; done) | (go_simp; with_reducible rfl)
            try simp only [Act.put, List.getElem_toArray, List.getElem_cons_zero, List.getElem_cons_succ, List.setIfInBounds_toArray, List.set_cons_zero, List.set_cons_succ]
            refine upto_takeN (i := 13) (v := (.bool false)) rfl (by kernel_rfl) (by kernel_rfl) (by kernel_rfl) (by kernel_rfl) (fun _ _ _ h => h) (by rfl) hS ?_ ?_
            · intro wS hSw
              try dsimp only at hSw
              go_simp
            try simp only [Act.put, List.getElem_toArray, List.getElem_cons_zero, List.getElem_cons_succ, List.setIfInBounds_toArray, List.set_cons_zero, List.set_cons_succ]
            refine upto_takeN (i := 14) (v := (.bool false)) rfl (by kernel_rfl) (by kernel_rfl) (by kernel_rfl) (by kernel_rfl) (fun _ _ _ h => h) (by rfl) hS ?_ ?_
            · intro wS hSw
              try dsimp only at hSw
              go_simp
            try simp only [Act.put, List.getElem_toArray, List.getElem_cons_zero, List.getElem_cons_succ, List.setIfInBounds_toArray, List.set_cons_zero, List.set_cons_succ]
            refine upto_takeN (i := 15) (v := (.bool false)) rfl (by kernel_rfl) (by kernel_rfl) (by kernel_rfl) (by kernel_rfl) (fun _ _ _ h => h) (by rfl) hS ?_ ?_
            · intro wS hSw
              try dsimp only at hSw
              go_simp
            try simp only [Act.put, List.getElem_toArray, List.getElem_cons_zero, List.getElem_cons_succ, List.setIfInBounds_toArray, List.set_cons_zero, List.set_cons_succ]
            refine upto_takeN (i := 16) (v := ?_) rfl (by kernel_rfl) (by kernel_rfl) (by kernel_rfl) (by kernel_rfl) (fun _ _ _ h => h) (by rfl) hS ?_ ?_
            rotate_left
            · intro wS hSw
              try dsimp only at hSw
              first | (go_simp; done) | (go_simp; with_reducible rfl)
            try simp only [Act.put, List.getElem_toArray, List.getElem_cons_zero, List.getElem_cons_succ, List.setIfInBounds_toArray, List.set_cons_zero, List.set_cons_succ]
            refine upto_takeN (i := 17) (v := ?_) rfl (by kernel_rfl) (by kernel_rfl) (by kernel_rfl) (by kernel_rfl) (fun _ _ _ h => h) (by rfl) hS ?_ ?_
            rotate_left
            · intro wS hSw
              try dsimp only at hSw
              first | (go_simp; done) | (go_simp; with_reducible rfl)
            try simp only [Act.put, List.getElem_toArray, List.getElem_cons_zero, List.getElem_cons_succ, List.setIfInBounds_toArray, List.set_cons_zero, List.set_cons_succ]
            refine upto_takeN (i := 18) (v := ?_) rfl (by kernel_rfl) (by kernel_rfl) (by kernel_rfl) (by kernel_rfl) (fun _ _ _ h => h) (by rfl) hS ?_ ?_
            rotate_left
            · intro wS hSw
              try dsimp only at hSw
              first | (go_simp; done) | (go_simp; with_reducible rfl)
            try simp only [Act.put, List.getElem_toArray, List.getElem_cons_zero, List.getElem_cons_succ, List.setIfInBounds_toArray, List.set_cons_zero, List.set_cons_succ]
            refine upto_takeN (i := 19) (v := ?_) rfl (by kernel_rfl) (by kernel_rfl) (by kernel_rfl) (by kernel_rfl) (fun _ _ _ h => h) (by rfl) hS ?_ ?_
            rotate_left
            · intro wS hSw
              try dsimp only at hSw
              first | (go_simp; done) | (go_simp; with_reducible rfl)
            try simp only [Act.put, List.getElem_toArray, List.getElem_cons_zero, List.getElem_cons_succ, List.setIfInBounds_toArray, List.set_cons_zero, List.set_cons_succ]
            refine upto_takeN (i := 20) (v := ?_) rfl (by kernel_rfl) (by kernel_rfl) (by kernel_rfl) (by kernel_rfl) (fun _ _ _ h => h) (by rfl) hS ?_ ?_
            rotate_left
            · intro wS hSw
              try dsimp only at hSw
              first | (go_simp; done) | (go_simp; with_reducible rfl)
            try simp only [Act.put, List.getElem_toArray, List.getElem_cons_zero, List.getElem_cons_succ, List.setIfInBounds_toArray, List.set_cons_zero, List.set_cons_succ]
            refine upto_takeN (i := 21) (v := ?_) rfl (by kernel_rfl) (by kernel_rfl) (by kernel_rfl) (by kernel_rfl) (fun _ _ _ h => h) (by rfl) hS ?_ ?_
            rotate_left
            · intro wS hSw
              try dsimp only at hSw
              first | (go_simp; done) | (go_simp; with_reducible rfl)
            try simp only [Act.put, List.getElem_toArray, List.getElem_cons_zero, List.getElem_cons_succ, List.setIfInBounds_toArray, List.set_cons_zero, List.set_cons_succ]
            refine upto_takeN (i := 22) (v := ?_) rfl (by kernel_rfl) (by kernel_rfl) (by kernel_rfl) (by kernel_rfl) (fun _ _ _ h => h) (by rfl) hS ?_ ?_
            rotate_left
            · intro wS hSw
              try dsimp only at hSw
              first | (go_simp; done) | (go_simp; with_reducible rfl)
            try simp only [Act.put, List.getElem_toArray, List.getElem_cons_zero, List.getElem_cons_succ, List.setIfInBounds_toArray, List.set_cons_zero, List.set_cons_succ]
            refine upto_takeN (i := 23) (v := ?_) rfl (by kernel_rfl) (by kernel_rfl) (by kernel_rfl) (by kernel_rfl) (fun _ _ _ h => h) (by rfl) hS ?_ ?_
            rotate_left
            · intro wS hSw
              try dsimp only at hSw
              first | (go_simp; done) | (go_simp; with_reducible rfl)
            try simp only [Act.put, List.getElem_toArray, List.getElem_cons_zero, List.getElem_cons_succ, List.setIfInBounds_toArray, List.set_cons_zero, List.set_cons_succ]
            refine upto_takeN (i := 24) (v := (.bool false)) rfl (by kernel_rfl) (by kernel_rfl) (by kernel_rfl) (by kernel_rfl) (fun _ _ _ h => h) (by rfl) hS ?_ ?_
            · intro wS hSw
              try dsimp only at hSw
              go_simp
            try simp only [Act.put, List.getElem_toArray, List.getElem_cons_zero, List.getElem_cons_succ, List.setIfInBounds_toArray, List.set_cons_zero, List.set_cons_succ]
            refine upto_takeN (i := 25) (v := (.bool false)) rfl (by kernel_rfl) (by kernel_rfl) (by kernel_rfl) (by kernel_rfl) (fun _ _ _ h => h) (by rfl) hS ?_ ?_
            · intro wS hSw
              try dsimp only at hSw
              go_simp
            try simp only [Act.put, List.getElem_toArray, List.getElem_cons_zero, List.getElem_cons_succ, List.setIfInBounds_toArray, List.set_cons_zero, List.set_cons_succ]
            refine upto_takeN (i := 26) (v := (.bool false)) rfl (by kernel_rfl) (by kernel_rfl) (by kernel_rfl) (by kernel_rfl) (fun _ _ _ h => h) (by rfl) hS ?_ ?_
            · intro wS hSw
              try dsimp only at hSw
              go_simp
            try simp only [Act.put, List.getElem_toArray, List.getElem_cons_zero, List.getElem_cons_succ, List.setIfInBounds_toArray, List.set_cons_zero, List.set_cons_succ]
            refine upto_takeN (i := 27) (v := ?_) rfl (by kernel_rfl) (by kernel_rfl) (by kernel_rfl) (by kernel_rfl) (fun _ _ _ h => h) (by rfl) hS ?_ ?_
            rotate_left
            · intro wS hSw
              try dsimp only at hSw
              first | (go_simp; done) | (go_simp; with_reducible rfl)
            try simp only [Act.put, List.getElem_toArray, List.getElem_cons_zero, List.getElem_cons_succ, List.setIfInBounds_toArray, List.set_cons_zero, List.set_cons_succ]
            refine upto_takeN (i := 28) (v := ?_) rfl (by kernel_rfl) (by kernel_rfl) (by kernel_rfl) (by kernel_rfl) (fun _ _ _ h => h) (by rfl) hS ?_ ?_
            rotate_left
            · intro wS hSw
              try dsimp only at hSw
              first | (go_simp; done) | (go_simp; with_reducible rfl)
            try simp only [Act.put, List.getElem_toArray, List.getElem_cons_zero, List.getElem_cons_succ, List.setIfInBounds_toArray, List.set_cons_zero, List.set_cons_succ]
            refine upto_takeN (i := 29) (v := ?_) rfl (by kernel_rfl) (by kernel_rfl) (by kernel_rfl) (by kernel_rfl) (fun _ _ _ h => h) (by rfl) hS ?_ ?_
            rotate_left
            · intro wS hSw
              try dsimp only at hSw
              first | (go_simp; done) | (go_simp; with_reducible rfl)
            try simp only [Act.put, List.getElem_toArray, List.getElem_cons_zero, List.getElem_cons_succ, List.setIfInBounds_toArray, List.set_cons_zero, List.set_cons_succ]
            refine upto_takeN (i := 30) (v := ?_) rfl (by kernel_rfl) (by kernel_rfl) (by kernel_rfl) (by kernel_rfl) (fun _ _ _ h => h) (by rfl) hS ?_ ?_
            rotate_left
            · intro wS hSw
              try dsimp only at hSw
              first | (go_simp; done) | (go_simp; with_reducible rfl)
            try simp only [Act.put, List.getElem_toArray, List.getElem_cons_zero, List.getElem_cons_succ, List.setIfInBounds_toArray, List.set_cons_zero, List.set_cons_succ]
            refine upto_takeN (i := 31) (v := ?_) rfl (by kernel_rfl) (by kernel_rfl) (by kernel_rfl) (by kernel_rfl) (fun _ _ _ h => h) (by rfl) hS ?_ ?_
            rotate_left
            · intro wS hSw
              try dsimp only at hSw
              first | (go_simp; done) | (go_simp; with_reducible rfl)
            try simp only [Act.put, List.getElem_toArray, List.getElem_cons_zero, List.getElem_cons_succ, List.setIfInBounds_toArray, List.set_cons_zero, List.set_cons_succ]
            refine upto_takeN (i := 32) (v := (.bool false)) rfl (by kernel_rfl) (by kernel_rfl) (by kernel_rfl) (by kernel_rfl) (fun _ _ _ h => h) (by rfl) hS ?_ ?_
            · intro wS hSw
              try dsimp only at hSw
              go_simp
            try simp only [Act.put, List.getElem_toArray, List.getElem_cons_zero, List.getElem_cons_succ, List.setIfInBounds_toArray, List.set_cons_zero, List.set_cons_succ]
            refine upto_takeN (i := 33) (v := (.bool false)) rfl (by kernel_rfl) (by kernel_rfl) (by kernel_rfl) (by kernel_rfl) (fun _ _ _ h => h) (by rfl) hS ?_ ?_
            · intro wS hSw
              try dsimp only at hSw
              go_simp
            try simp only [Act.put, List.getElem_toArray, List.getElem_cons_zero, List.getElem_cons_succ, List.setIfInBounds_toArray, List.set_cons_zero, List.set_cons_succ]
            refine upto_done (by kernel_rfl) ?_
            refine NoPanic.normal ?_
            clear hS
            go_wp2
            exact ⟨⟨k + 1, N + 1, by omega, by omega, by go_num, by go_num, HN2, by (repeat (first | exact Below.refl _ _ | assumption | refine Below.drew ?_ | refine balloc ?_ _ | refine bset ?_ (by simp; omega) _ | refine bset ?_ (by simp) _ | refine bstep ?_ (by assumption))), cell_keep (by (repeat (first | exact Below.refl _ _ | assumption | refine Below.drew ?_ | refine balloc ?_ _ | refine bset ?_ (by simp; omega) _ | refine bset ?_ (by simp) _ | refine bstep ?_ (by assumption)))) hkb⟩, by simp [intOf]; omega⟩
          · have HN2 : Hid ((scanTo xs p fl (ks.take (k + 1))).length = N) := by rw [Hid, ← HT.out, scanTo_miss (by unfold hasP; simp [hpre])]; exact HN1.out
            have s1 : ¬ ((q.size : Int) < (p.size : Int)) := by omega
            have s2 : (p.size : Int) ≤ (q.size : Int) := by omega
            have s3 : (0 : Int) ≤ (p.size : Int) := by omega
            have s7 : ((q.extract 0 p.size).toList == p.toList) = false := by rw [beq_eq_false_iff_ne]; exact hpre
            clear hg
            generalize rr.val = tv
            go_wp2
            exact ⟨⟨k + 1, N, by omega, hNR, by go_num, rfl, HN2, by (repeat (first | exact Below.refl _ _ | assumption | refine Below.drew ?_ | refine balloc ?_ _ | refine bset ?_ (by simp; omega) _ | refine bset ?_ (by simp) _ | refine bstep ?_ (by assumption))), cell_keep (by (repeat (first | exact Below.refl _ _ | assumption | refine Below.drew ?_ | refine balloc ?_ _ | refine bset ?_ (by simp; omega) _ | refine bset ?_ (by simp) _ | refine bstep ?_ (by assumption)))) hkb⟩, by simp [intOf]; omega⟩
        · have HN2 : Hid ((scanTo xs p fl (ks.take (k + 1))).length = N) := by rw [Hid, ← HT.out, scanTo_miss (by unfold hasP; simp [hsz])]; exact HN1.out
          have s1 : (q.size : Int) < (p.size : Int) := by omega
          clear hg
          generalize rr.val = tv
          go_wp2
          exact ⟨⟨k + 1, N, by omega, hNR, by go_num, rfl, HN2, by (repeat (first | exact Below.refl _ _ | assumption | refine Below.drew ?_ | refine balloc ?_ _ | refine bset ?_ (by simp; omega) _ | refine bset ?_ (by simp) _ | refine bstep ?_ (by assumption))), cell_keep (by (repeat (first | exact Below.refl _ _ | assumption | refine Below.drew ?_ | refine balloc ?_ _ | refine bset ?_ (by simp; omega) _ | refine bset ?_ (by simp) _ | refine bstep ?_ (by assumption)))) hkb⟩, by simp [intOf]; omega⟩
    · have hk' : ¬ ((k : Int) < m) := by omega
      obtain rfl : k = m := by omega
      obtain rfl : N = R := by
        have h1 := HN1.out
        rw [HEND.out, HSC.out, HRR.out] at h1
        exact h1.symm
      have r1' := cell_keep hbr r1
      have hB6 := bstep (bstep hB2 hB3) hbr
      clear HG HGC HHIT HLE HTK HROW HKC
      go_wp2
      refine wp_region_noPanic ?_
      refine region_upto (fun W => Below w1.heap.size w1 W ∧ W.cell? ⟨w2.heap.size, 1, none⟩ = some (.slice a2 N c2) ∧ W.cell? ⟨w3.heap.size, 1, none⟩ = some (.slice a3 k c3)) 16 (by kernel_rfl) ⟨by (repeat (first | exact Below.refl _ _ | assumption | refine Below.drew ?_ | refine balloc ?_ _ | refine bset ?_ (by simp; omega) _ | refine bset ?_ (by simp) _ | refine bstep ?_ (by assumption))), cell_keep (by (repeat (first | exact Below.refl _ _ | assumption | refine Below.drew ?_ | refine balloc ?_ _ | refine bset ?_ (by simp; omega) _ | refine bset ?_ (by simp) _ | refine bstep ?_ (by assumption)))) r1', cell_keep (by (repeat (first | exact Below.refl _ _ | assumption | refine Below.drew ?_ | refine balloc ?_ _ | refine bset ?_ (by simp; omega) _ | refine bset ?_ (by simp) _ | refine bstep ?_ (by assumption)))) hkb⟩ (fun hS => ?_)
      refine upto_takeN (i := 0) (v := ?_) rfl (by kernel_rfl) (by kernel_rfl) (by kernel_rfl) (by kernel_rfl) (fun _ _ _ h => h) (by rfl) hS ?_ ?_
      rotate_left
      · intro wS hSw
        try dsimp only at hSw
        first | (go_simp; done) | (go_simp; with_reducible rfl)
      try simp only [Act.put, List.getElem_toArray, List.getElem_cons_zero, List.getElem_cons_succ, List.setIfInBounds_toArray, List.set_cons_zero, List.set_cons_succ]
      refine upto_takeN (i := 1) (v := ?_) rfl (by kernel_rfl) (by kernel_rfl) (by kernel_rfl) (by kernel_rfl) (fun _ _ _ h => h) (by rfl) hS ?_ ?_
      rotate_left
      · intro wS hSw
        try dsimp only at hSw
        first | (go_simp; done) | (go_simp; with_reducible rfl)
      try simp only [Act.put, List.getElem_toArray, List.getElem_cons_zero, List.getElem_cons_succ, List.setIfInBounds_toArray, List.set_cons_zero, List.set_cons_succ]
      refine upto_takeN (i := 2) (v := ?_) rfl (by kernel_rfl) (by kernel_rfl) (by kernel_rfl) (by kernel_rfl) (fun _ _ _ h => h) (by rfl) hS ?_ ?_
      rotate_left
      · intro wS hSw
        try dsimp only at hSw
        first | (go_simp; done) | (go_simp; with_reducible rfl)
      try simp only [Act.put, List.getElem_toArray, List.getElem_cons_zero, List.getElem_cons_succ, List.setIfInBounds_toArray, List.set_cons_zero, List.set_cons_succ]
      refine upto_takeN (i := 3) (v := ?_) rfl (by kernel_rfl) (by kernel_rfl) (by kernel_rfl) (by kernel_rfl) (fun _ _ _ h => h) (by rfl) hS ?_ ?_
      rotate_left
      · intro wS hSw
        try dsimp only at hSw
        first | (go_simp; done) | (go_simp; with_reducible rfl)
      try simp only [Act.put, List.getElem_toArray, List.getElem_cons_zero, List.getElem_cons_succ, List.setIfInBounds_toArray, List.set_cons_zero, List.set_cons_succ]
      refine upto_takeN (i := 4) (v := (.bool true)) rfl (by kernel_rfl) (by kernel_rfl) (by kernel_rfl) (by kernel_rfl) (fun _ _ _ h => h) (by rfl) hS ?_ ?_
      · intro wS hSw
        try dsimp only at hSw
        go_simp
      try simp only [Act.put, List.getElem_toArray, List.getElem_cons_zero, List.getElem_cons_succ, List.setIfInBounds_toArray, List.set_cons_zero, List.set_cons_succ]
      refine upto_takeN (i := 5) (v := (.bool true)) rfl (by kernel_rfl) (by kernel_rfl) (by kernel_rfl) (by kernel_rfl) (fun _ _ _ h => h) (by rfl) hS ?_ ?_
      · intro wS hSw
        try dsimp only at hSw
        go_simp
      try simp only [Act.put, List.getElem_toArray, List.getElem_cons_zero, List.getElem_cons_succ, List.setIfInBounds_toArray, List.set_cons_zero, List.set_cons_succ]
      refine upto_takeN (i := 6) (v := ?_) rfl (by kernel_rfl) (by kernel_rfl) (by kernel_rfl) (by kernel_rfl) (fun _ _ _ h => h) (by rfl) hS ?_ ?_
      rotate_left
      · intro wS hSw
        try dsimp only at hSw
        first | (go_simp; done) | (go_simp; with_reducible rfl)
      try simp only [Act.put, List.getElem_toArray, List.getElem_cons_zero, List.getElem_cons_succ, List.setIfInBounds_toArray, List.set_cons_zero, List.set_cons_succ]
      refine upto_takeN (i := 7) (v := ?_) rfl (by kernel_rfl) (by kernel_rfl) (by kernel_rfl) (by kernel_rfl) (fun _ _ _ h => h) (by rfl) hS ?_ ?_
      rotate_left
      · intro wS hSw
        try dsimp only at hSw
        first | (go_simp; done) | (go_simp; with_reducible rfl)
      try simp only [Act.put, List.getElem_toArray, List.getElem_cons_zero, List.getElem_cons_succ, List.setIfInBounds_toArray, List.set_cons_zero, List.set_cons_succ]
      refine upto_takeN (i := 8) (v := ?_) rfl (by kernel_rfl) (by kernel_rfl) (by kernel_rfl) (by kernel_rfl) (fun _ _ _ h => h) (by rfl) hS ?_ ?_
      rotate_left
      · intro wS hSw
        try dsimp only at hSw
        first | (go_simp; done) | (go_simp; with_reducible rfl)
      try simp only [Act.put, List.getElem_toArray, List.getElem_cons_zero, List.getElem_cons_succ, List.setIfInBounds_toArray, List.set_cons_zero, List.set_cons_succ]
      refine upto_takeN (i := 9) (v := ?_) rfl (by kernel_rfl) (by kernel_rfl) (by kernel_rfl) (by kernel_rfl) (fun _ _ _ h => h) (by rfl) hS ?_ ?_
      rotate_left
      · intro wS hSw
        try dsimp only at hSw
        first | (go_simp; done) | (go_simp; with_reducible rfl)
      try simp only [Act.put, List.getElem_toArray, List.getElem_cons_zero, List.getElem_cons_succ, List.setIfInBounds_toArray, List.set_cons_zero, List.set_cons_succ]
      refine upto_step (i := 10) (by kernel_rfl) rfl ?_
      intro K hK
      go_simp
      refine (HKS.out _ hS.1).mono ?_
      rintro e w7 ⟨u7, F7, rfl, ho7, hb7⟩
      obtain ⟨a7, c7, rfl⟩ := keysR_form (keysRR.ofO ho7)
      have hS7 : (fun W => Below w1.heap.size w1 W ∧ W.cell? ⟨w2.heap.size, 1, none⟩ = some (.slice a2 N c2) ∧ W.cell? ⟨w3.heap.size, 1, none⟩ = some (.slice a3 k c3)) w7 := ⟨bstep hS.1 hb7, cell_keep hb7 hS.2.1, cell_keep hb7 hS.2.2⟩
      dsimp only
      rw [HMM.out]
      have hfd : ∀ w : World, (Instr.field 32 (.agg #[.int .i64 0, .slice a7 k c7]) 1).run Try.prog w = .ok (.slice a7 k c7) w := fun _ => by kernel_rfl
      refine hK _ _ (fun _ => hS7) ?_
      clear hK K ho7 hb7 hS
      try simp only [Act.put, List.getElem_toArray, List.getElem_cons_zero, List.getElem_cons_succ, List.setIfInBounds_toArray, List.set_cons_zero, List.set_cons_succ]
      refine upto_takeN (i := 11) (v := (.slice a7 k c7)) rfl (by kernel_rfl) (by kernel_rfl) (by kernel_rfl) (by kernel_rfl) (fun _ _ _ h => h) (by rfl) hS7 ?_ ?_
      · intro wS hSw
        try dsimp only at hSw
        go_simp
      try simp only [Act.put, List.getElem_toArray, List.getElem_cons_zero, List.getElem_cons_succ, List.setIfInBounds_toArray, List.set_cons_zero, List.set_cons_succ]
      refine upto_takeN (i := 12) (v := ?_) rfl (by kernel_rfl) (by kernel_rfl) (by kernel_rfl) (by kernel_rfl) (fun _ _ _ h => h) (by rfl) hS7 ?_ ?_
      rotate_left
      · intro wS hSw
        try dsimp only at hSw
        first | (go_simp; done) | (go_simp; with_reducible rfl)
      try simp only [Act.put, List.getElem_toArray, List.getElem_cons_zero, List.getElem_cons_succ, List.setIfInBounds_toArray, List.set_cons_zero, List.set_cons_succ]
      refine upto_takeN (i := 13) (v := (.bool true)) rfl (by kernel_rfl) (by kernel_rfl) (by kernel_rfl) (by kernel_rfl) (fun _ _ _ h => h) (by rfl) hS7 ?_ ?_
      · intro wS hSw
        try dsimp only at hSw
        go_simp
      try simp only [Act.put, List.getElem_toArray, List.getElem_cons_zero, List.getElem_cons_succ, List.setIfInBounds_toArray, List.set_cons_zero, List.set_cons_succ]
      refine upto_takeN (i := 14) (v := (.bool true)) rfl (by kernel_rfl) (by kernel_rfl) (by kernel_rfl) (by kernel_rfl) (fun _ _ _ h => h) (by rfl) hS7 ?_ ?_
      · intro wS hSw
        try dsimp only at hSw
        go_simp
      try simp only [Act.put, List.getElem_toArray, List.getElem_cons_zero, List.getElem_cons_succ, List.setIfInBounds_toArray, List.set_cons_zero, List.set_cons_succ]
      refine upto_takeN (i := 15) (v := (.bool true)) rfl (by kernel_rfl) (by kernel_rfl) (by kernel_rfl) (by kernel_rfl) (fun _ _ _ h => h) (by rfl) hS7 ?_ ?_
      · intro wS hSw
        try dsimp only at hSw
        go_simp
      try simp only [Act.put, List.getElem_toArray, List.getElem_cons_zero, List.getElem_cons_succ, List.setIfInBounds_toArray, List.set_cons_zero, List.set_cons_succ]
      refine upto_done (by kernel_rfl) ?_
      refine NoPanic.normal ?_
      have hB7 := hS7.1
      clear hS7 hfd
      go_wp2
      go_ret
      exact ⟨rfl, bstep hb1 hB7⟩

end scansLaw
end Go.Proofs.Ytaahmmadcdfcpaa
