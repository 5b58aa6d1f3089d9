/-
  The specification's ScanTable.
-/
import Derived.Test.YtaahmmadcdfcpaaScanM
import Derived.Test.YtaahmmadcdfcpaaApp0
import Derived.Test.YtaahmmadcdfcpaaRegT
import Derived.Test.YtaahmmadcdfcpaaRowP
namespace Go.Proofs.Ytaahmmadcdfcpaa
open Go.RowKit
set_option linter.unusedSectionVars false
variable [DecidableEq Rw] [Inhabited Rw] [DecidableEq KeysR] [Inhabited KeysR] [DecidableEq TabR] [Inhabited TabR]
set_option linter.unusedVariables false
set_option linter.unusedSimpArgs false
attribute [local go_sem ↓] Go.wp_at_zero Go.wp_at_succ

set_option maxRecDepth 20000 in
set_option maxHeartbeats 4000000 in
theorem specScan_u (x : Value) (xs : List Rw) (p : ByteArray) (v : Int) (w : World) (hx : rowsR.V w x xs) :
    Calls Try.prog 9 #[x, .string p, .int .i64 v] w fun e w' => ∃ u F, e = .returned u ∧ tabRR.O w' w.heap.size F u (scanD xs p v) ∧ Below w.heap.size w w' := by
  have hX := hx.1
  have hfit := hx.2
  obtain ⟨ax, cx, rfl⟩ := rows_form hx
  generalize hN : xs.length = n at *
  have HN : Hid (xs.length = n) := hN
  clear hN hx
  go_enter Try.func9, Try.ntmps9
  go_wp2_with fail
  refine (specTableFault_any _ xs _ (RowsV_below hX (by (repeat (first | exact Below.refl _ _ | assumption | refine Below.drew ?_ | refine balloc ?_ _ | refine bset ?_ (by simp; omega) _ | refine bset ?_ (by simp) _ | refine bstep ?_ (by assumption)))))).mono ?_
  rintro e w1 ⟨rfl, hb1⟩
  obtain ⟨g0, g1, gf, gz⟩ := boxNew2 hb1 rfl
  have hB1 : Below w.heap.size w w1 := by (repeat (first | exact Below.refl _ _ | assumption | refine Below.drew ?_ | refine balloc ?_ _ | refine bset ?_ (by simp; omega) _ | refine bset ?_ (by simp) _ | refine bstep ?_ (by assumption)))
  have hX1 := RowsV_below hX hB1
  have HXw : Hid (RowsV w (.slice ax n cx) xs) := hX
  clear hb1 hX
  by_cases h0 : tabF xs = 0
  rotate_left
  · have E : Hid (scanD xs p v = ⟨tabF xs, []⟩) := by rw [Hid]; unfold scanD; rw [if_neg h0]
    have h0' : ((tabF xs : Int) == 0) = false := by rw [beq_eq_false_iff_ne]; exact h0
    generalize tabF xs = c at h0 h0' E ⊢
    go_wp2
    refine bodyPost_ret (v := .agg #[.int .i64 c, .slice none 0 0]) (by simp [results, Try.results9, go_sem, g0, g1, gf]) rfl ?_
    obtain ⟨F, hF⟩ := tabRR_nil ((w1.setCell ⟨w.heap.size, 0, none⟩ (.int .i64 c)).setCell ⟨w.heap.size, 1, none⟩ (.slice none 0 0)) w.heap.size c
    exact ⟨_, F, rfl, by rw [E.out]; exact hF, by (repeat (first | exact Below.refl _ _ | assumption | refine Below.drew ?_ | refine balloc ?_ _ | refine bset ?_ (by simp; omega) _ | refine bset ?_ (by simp) _ | refine bstep ?_ (by assumption)))⟩
  have E : Hid (scanD xs p v = ⟨0, scanTo xs p v (keysL xs)⟩) := by rw [Hid]; unfold scanD; rw [if_pos h0]
  have hlen := (tabF_all h0).1
  rw [h0]
  go_wp2_with fail
  refine (l5Keys_any _ xs _ (RowsV_below hX1 (by (repeat (first | exact Below.refl _ _ | assumption | refine Below.drew ?_ | refine balloc ?_ _ | refine bset ?_ (by simp; omega) _ | refine bset ?_ (by simp) _ | refine bstep ?_ (by assumption))))) hlen).mono ?_
  rintro e w2 ⟨vk, rfl, hk, hb2⟩
  obtain ⟨t0, t1, tf, tz⟩ := boxNew2 hb2 rfl
  have g0' := cell_keep hb2 (cell_keep (balloc (Below.refl _ _) _) g0)
  have g1' := cell_keep hb2 (cell_keep (balloc (Below.refl _ _) _) g1)
  have gk := boxKeep ⟨gf, gz⟩ (bstep (balloc (Below.refl _ _) _) hb2)
  have hB2 : Below w.heap.size w w2 := by (repeat (first | exact Below.refl _ _ | assumption | refine Below.drew ?_ | refine balloc ?_ _ | refine bset ?_ (by simp; omega) _ | refine bset ?_ (by simp) _ | refine bstep ?_ (by assumption)))
  have hX2 := RowsV_below hX1 (bstep (balloc (Below.refl _ _) _) hb2)
  obtain ⟨ak, ck, rfl⟩ := owns_form hk
  have HKV : Hid (∀ i, i < (keysL xs).length → ∃ b, ak = some ⟨b, 0, none⟩ ∧ w1.heap.size < b ∧ b < w2.heap.size ∧ w2.cell? ⟨b, i, none⟩ = some (.string ((keysL xs).getD i default))) := by
    intro i hi
    have hk' := hk
    rcases hk'.2 with ⟨e, hn⟩ | ⟨g, cap, cur, e, hb, hg, hnc, hcm, hcs, htake⟩
    · omega
    · simp only [Value.slice.injEq] at e
      obtain ⟨rfl, _, rfl⟩ := e
      have hl := hk.lt g rfl
      simp only [World.size_alloc] at hl
      refine ⟨g, rfl, by omega, hl.2, ?_⟩
      refine (hk.cellAt i (by omega)).trans ?_
      simp [strsC, List.getD, hi]
  have hkl := keysTo_le xs xs.length
  have HL : Hid ((keysL xs).length ≤ 200) := by rw [Hid]; unfold keysL; omega
  have hcap : (keysL xs).length ≤ ck ∧ ck ≤ maxLen := by
    rcases hk.2 with ⟨e, hn⟩ | ⟨g, cap, cur, e, hb, hg, hnc, hcm, hcs, htake⟩
    · simp only [Value.slice.injEq] at e
      rw [e.2.2, hn]
      unfold maxLen
      omega
    · simp only [Value.slice.injEq] at e
      rw [e.2.2]
      exact ⟨hnc, hcm⟩
  unfold maxLen at hcap
  clear hk hX1 g0 g1 gf hb2 hkl hB1
  obtain ⟨ks, hks⟩ : ∃ ks, keysL xs = ks := ⟨_, rfl⟩
  rw [hks] at HKV HL hcap E ⊢
  generalize hM : ks.length = nk at *
  have HM : Hid (ks.length = nk) := hM
  clear hM hks
  have HT : Hid (∀ k, k < nk → ks.take k ++ [ks.getD k default] = ks.take (k + 1)) := fun k hk => take_snoc ks (by rw [HM.out]; exact hk)
  have HSL : Hid (∀ k, (scanTo xs p v (ks.take k)).length ≤ k) := fun k => by
    have h1 := scanTo_le xs p v (ks.take k)
    have h2 := List.length_take_le k ks
    omega
  have tN : w.heap.size < w1.heap.size := gz
  obtain ⟨T, hTT⟩ : ∃ T, w1.heap.size = T := ⟨_, rfl⟩
  rw [hTT] at t0 t1 tf tz HKV tN ⊢
  go_wp2
  go_loopw [10] (fun i W => ∃ (k : Nat) (u : Value), k ≤ nk ∧ i = .int .i64 k ∧ Mod (fun b => b = T ∨ w2.heap.size ≤ b) w2 W ∧ W.cell? ⟨T, 0, none⟩ = some (.int .i64 0) ∧ W.cell? ⟨T, 1, none⟩ = some u ∧ (∀ o, W.frozen? ⟨T, o, none⟩ = false) ∧ W.ownsRow w2.heap.size 38 4 u (scanTo xs p v (ks.take k)).length (rwsC (scanTo xs p v (ks.take k)))) (fun i _ => nk - (intOf i).toNat)
  case atStart => exact ⟨0, _, Nat.zero_le _, rfl, Mod.refl _ _, t0, t1, tf, by simpa [scanTo, rwsC] using World.ownsRow_nil _ _ _ _⟩
  case round =>
    obtain ⟨k, u, hk, rfl, hm, c0, c1, cf, ho⟩ := hrel
    by_cases hlt : k < nk
    · obtain ⟨b, rfl, hTb, hbL, hcell⟩ := HKV.out k hlt
      obtain ⟨q, hq⟩ : ∃ q, q = ks.getD k default := ⟨_, rfl⟩
      have hT' := HT.out k hlt
      rw [← hq] at hcell hT'
      have HT2 : Hid (ks.take k ++ [q] = ks.take (k + 1)) := hT'
      have hcW := hm.cell hcell (by dsimp only; omega)
      clear hq hT' HKV HT
      have hle := HSL.out k
      by_cases hsz : p.size ≤ q.size
      · by_cases hpre : (q.extract 0 p.size).toList = p.toList
        · have HE0 : Hid (∀ rr, getRow xs q v = some rr → scanTo xs p v (ks.take (k + 1)) = scanTo xs p v (ks.take k) ++ [rr]) := fun rr hr => by
            rw [← HT2.out]
            exact scanTo_hit (by unfold hasP; simp [hsz, hpre]) hr
          have HE1 : Hid (getRow xs q v = none → scanTo xs p v (ks.take (k + 1)) = scanTo xs p v (ks.take k)) := fun hr => by
            rw [← HT2.out]
            exact scanTo_none hr
          have hBr : Below w.heap.size w wr := ⟨hm.os.trans hB2.os, hm.tape.trans hB2.tape, hm.output.trans hB2.output, Nat.le_trans hB2.size hm.size, fun b hb => (hm.block b (by have := hB2.size; omega) (by have := hB2.size; omega)).trans (hB2.block b hb)⟩
          have hXr := RowsV_below HXw.out hBr
          have hd1 : ¬ (q.size : Int) < (p.size : Int) := by omega
          have hd2 : ((q.extract 0 p.size).toList == p.toList) = true := by rw [hpre]; simp
          have hd3 : (p.size : Int) ≤ (q.size : Int) := by omega
          have hd4 : (0 : Int) ≤ (p.size : Int) := by omega
          go_wp2_with fail
          refine (l5Get_any _ xs q v _ hXr).mono ?_
          rintro e W3 ⟨⟨i, rfl, hi⟩, hW3⟩
          obtain rfl : wr = W3 := hW3.symm
          rcases hi with ⟨rfl, hg⟩ | ⟨m, hmx, rfl, hg⟩
          · have HE : Hid _ := HE1.out hg
            clear HE0 HE1 hg
            go_wp2
            exact ⟨⟨k + 1, u, by omega, by go_num, hm, c0, c1, cf, by rw [HE.out]; exact ho⟩, by simp [intOf]; omega⟩
          · have HE : Hid _ := HE0.out _ hg
            rw [HN.out] at hmx
            obtain ⟨axx, cxx, exx, hcx1, hcx2, hrows⟩ := HXw.out
            obtain ⟨bx, ox, eb, hrow0⟩ := hrows m (by rw [HN.out]; exact hmx)
            have hzx := World.block_lt_of_cell? _ _ hrow0.1
            have hrow := rowCells_below hBr hrow0
            clear hrow0 hXr
            simp only [Value.slice.injEq] at exx
            obtain ⟨rfl, en, rfl⟩ := exx
            clear en
            subst eb
            obtain ⟨r, hr⟩ : ∃ r, r = xs.getD m default := ⟨_, rfl⟩
            rw [← hr] at hrow HE
            obtain ⟨au, cu, rfl⟩ := owns_form ho
            have hi1 : (0 : Int) ≤ (m : Int) := by omega
            have hi2 : (m : Int) < (n : Int) := by omega
            have hzT := World.block_lt_of_cell? _ _ c1
            dsimp only at hzT hzx
            unfold maxLen at hcx2
            rw [HN.out] at hcx1
            clear HE0 HE1 hg hrows hr
            go_wp2
            refine wp_region_noPanic ?_
            refine region_upto (fun W => W.cell? ⟨T, 1, none⟩ = some (.slice au (scanTo xs p v (ks.take k)).length cu) ∧ W.cell? ⟨bx, ox + m * 4, none⟩ = some (.string r.key) ∧ W.cell? ⟨bx, ox + m * 4 + 1, none⟩ = some (.int .i64 r.ver) ∧ W.cell? ⟨bx, ox + m * 4 + 2, none⟩ = some (.string r.val) ∧ W.cell? ⟨bx, ox + m * 4 + 3, none⟩ = some (.bool r.gone)) 9 (by kernel_rfl) ⟨cell_keep (by (repeat (first | exact Below.refl _ _ | assumption | refine Below.drew ?_ | refine balloc ?_ _ | refine bset ?_ (by simp; omega) _ | refine bset ?_ (by simp) _ | refine bstep ?_ (by assumption)))) c1, rowCells_below (by (repeat (first | exact Below.refl _ _ | assumption | refine Below.drew ?_ | refine balloc ?_ _ | refine bset ?_ (by simp; omega) _ | refine bset ?_ (by simp) _ | refine bstep ?_ (by assumption)))) hrow⟩ (fun hS => ?_)
            refine upto_take (i := 0) (v := ?_) rfl (by kernel_rfl) (by kernel_rfl) (by kernel_rfl) (by kernel_rfl) (fun _ _ _ h => h) (by rfl) hS ?_ ?_
            rotate_left
            · intro wS hSw
              try dsimp only at hSw
              first | (go_simp; done) | (go_simp; with_reducible rfl)
            try simp only [Act.put, List.getElem_toArray, List.getElem_cons_zero, List.getElem_cons_succ, List.setIfInBounds_toArray, List.set_cons_zero, List.set_cons_succ]
            refine upto_take (i := 1) (v := ?_) rfl (by kernel_rfl) (by kernel_rfl) (by kernel_rfl) (by kernel_rfl) (fun _ _ _ h => h) (by rfl) hS ?_ ?_
            rotate_left
            · intro wS hSw
              try dsimp only at hSw
              first | (go_simp; done) | (go_simp; with_reducible rfl)
            try simp only [Act.put, List.getElem_toArray, List.getElem_cons_zero, List.getElem_cons_succ, List.setIfInBounds_toArray, List.set_cons_zero, List.set_cons_succ]
            refine upto_take (i := 2) (v := ?_) rfl (by kernel_rfl) (by kernel_rfl) (by kernel_rfl) (by kernel_rfl) (fun _ _ _ h => h) (by rfl) hS ?_ ?_
            rotate_left
            · intro wS hSw
              try dsimp only at hSw
              first | (go_simp; done) | (go_simp; with_reducible rfl)
            try simp only [Act.put, List.getElem_toArray, List.getElem_cons_zero, List.getElem_cons_succ, List.setIfInBounds_toArray, List.set_cons_zero, List.set_cons_succ]
            refine upto_take (i := 3) (v := ?_) rfl (by kernel_rfl) (by kernel_rfl) (by kernel_rfl) (by kernel_rfl) (fun _ _ _ h => h) (by rfl) hS ?_ ?_
            rotate_left
            · intro wS hSw
              try dsimp only at hSw
              first | (go_simp; done) | (go_simp; with_reducible rfl)
            try simp only [Act.put, List.getElem_toArray, List.getElem_cons_zero, List.getElem_cons_succ, List.setIfInBounds_toArray, List.set_cons_zero, List.set_cons_succ]
            refine upto_take (i := 4) (v := ?_) rfl (by kernel_rfl) (by kernel_rfl) (by kernel_rfl) (by kernel_rfl) (fun _ _ _ h => h) (by rfl) hS ?_ ?_
            rotate_left
            · intro wS hSw
              try dsimp only at hSw
              first | (go_simp; done) | (go_simp; with_reducible rfl)
            try simp only [Act.put, List.getElem_toArray, List.getElem_cons_zero, List.getElem_cons_succ, List.setIfInBounds_toArray, List.set_cons_zero, List.set_cons_succ]
            refine upto_take (i := 5) (v := ?_) rfl (by kernel_rfl) (by kernel_rfl) (by kernel_rfl) (by kernel_rfl) (fun _ _ _ h => h) (by rfl) hS ?_ ?_
            rotate_left
            · intro wS hSw
              try dsimp only at hSw
              first | (go_simp; done) | (go_simp; with_reducible rfl)
            try simp only [Act.put, List.getElem_toArray, List.getElem_cons_zero, List.getElem_cons_succ, List.setIfInBounds_toArray, List.set_cons_zero, List.set_cons_succ]
            refine upto_step (i := 6) (by kernel_rfl) rfl ?_
            intro K hK
            go_simp
            refine hK _ _ (fun _ => ⟨cell_keep (balloc (Below.refl _ _) _) hS.1, rowCells_below (balloc (Below.refl _ _) _) hS.2⟩) ?_
            clear hK K
            try simp only [Act.put, List.getElem_toArray, List.getElem_cons_zero, List.getElem_cons_succ, List.setIfInBounds_toArray, List.set_cons_zero, List.set_cons_succ]
            refine upto_step (i := 7) (by kernel_rfl) rfl ?_
            intro K hK
            refine step_pushRow _ rfl _ _ rfl w2.heap.size _ (scanTo xs p v (ks.take k)) rfl r _ rfl (owns_below ho (balloc (Below.drew (Below.refl _ _)) _)) ?_ (by have := HL.out; omega) ?_ ?_
            · exact .inr ⟨_, _, rfl, rowC_cells (b := wr.heap.size) (o := 0) ⟨by simp [go_sem], by simp [go_sem], by simp [go_sem], by simp [go_sem]⟩⟩
            · have := hm.size
              simp
              omega
            intro v5 w5 o5 hg5 hB5
            obtain ⟨p5, c5, rfl⟩ := owns_form o5
            have hnT : ¬ (Value.slice au (scanTo xs p v (ks.take k)).length cu).ownBlock = some T := fun e => by have := (ho.lt T e).1; omega
            have q0 : w5.cell? ⟨T, 0, none⟩ = some (.int .i64 0) := hg5.cell (cell_keep (balloc (Below.drew (Below.refl _ _)) _) c0) (fun e => hnT e.symm)
            have q1 : w5.cell? ⟨T, 1, none⟩ = some (.slice au (scanTo xs p v (ks.take k)).length cu) := hg5.cell (cell_keep (balloc (Below.drew (Below.refl _ _)) _) c1) (fun e => hnT e.symm)
            have mg : Mod (fun b => (Value.slice au (scanTo xs p v (ks.take k)).length cu).ownBlock = some b) wr w5 := (Mod.of_below (Below.drew (balloc (Below.refl _ _) _))).trans (Mod.of_grown hg5)
            have hM5 : Mod (fun b => b = T ∨ w2.heap.size ≤ b) w2 w5 := hm.trans (mg.mono (fun b h => Or.inr (ho.lt b h).1))
            have hs2 := hB2.size
            have qf : ∀ o, w5.frozen? ⟨T, o, none⟩ = false := fun o => (mg.frozen (a := ⟨T, o, none⟩) (by dsimp only; omega) hnT).trans (cf o)
            have hS6 : (fun W => W.cell? ⟨T, 1, none⟩ = some (.slice au (scanTo xs p v (ks.take k)).length cu) ∧ W.cell? ⟨bx, ox + m * 4, none⟩ = some (.string r.key) ∧ W.cell? ⟨bx, ox + m * 4 + 1, none⟩ = some (.int .i64 r.ver) ∧ W.cell? ⟨bx, ox + m * 4 + 2, none⟩ = some (.string r.val) ∧ W.cell? ⟨bx, ox + m * 4 + 3, none⟩ = some (.bool r.gone)) w5 := by
              refine ⟨q1, ?_⟩
              have hrw : rowCells w bx (ox + m * 4) r ∨ True := .inr trivial
              exact rowCells_mod mg (fun e => by have := (ho.lt bx e).1; omega) hrow
            refine hK _ _ (fun _ => hS6) ?_
            clear hK K
            try simp only [Act.put, List.getElem_toArray, List.getElem_cons_zero, List.getElem_cons_succ, List.setIfInBounds_toArray, List.set_cons_zero, List.set_cons_succ]
            refine upto_take (i := 8) (v := ?_) rfl (by kernel_rfl) (by kernel_rfl) (by kernel_rfl) (by kernel_rfl) (fun _ _ _ h => h) (by rfl) hS6 ?_ ?_
            rotate_left
            · intro wS hSw
              try dsimp only at hSw
              first | (go_simp; done) | (go_simp; with_reducible rfl)
            try simp only [Act.put, List.getElem_toArray, List.getElem_cons_zero, List.getElem_cons_succ, List.setIfInBounds_toArray, List.set_cons_zero, List.set_cons_succ]
            refine upto_step (i := 9) (by kernel_rfl) rfl ?_
            intro K hK
            go_simp
            refine hK _ _ (fun h => absurd rfl h) ?_
            clear hK K
            refine upto_done (by kernel_rfl) ?_
            refine NoPanic.normal ?_
            clear hS hS6
            go_wp2
            refine ⟨⟨k + 1, .slice p5 (scanTo xs p v (ks.take k) ++ [r]).length c5, by omega, by go_num, ?_, ?_, ?_, ?_, ?_⟩, by simp [intOf]; omega⟩
            · exact hM5.trans ((Mod.of_set w5 ⟨T, 1, none⟩ _).mono (fun b h => .inl h))
            · exact (set_other (by simp)).trans q0
            · exact (by simpa using set_same q1)
            · intro o
              rw [World.frozen?_setCell]
              exact qf o
            · rw [HE.out]
              exact owns_setCell o5 (by dsimp only; omega) _
        · have HE : Hid (scanTo xs p v (ks.take (k + 1)) = scanTo xs p v (ks.take k)) := by
            rw [Hid, ← HT2.out]
            exact scanTo_miss (by unfold hasP; simp [hpre])
          have hd1 : ¬ (q.size : Int) < (p.size : Int) := by omega
          have hd2 : ((q.extract 0 p.size).toList == p.toList) = false := by rw [beq_eq_false_iff_ne]; exact hpre
          have hd3 : (p.size : Int) ≤ (q.size : Int) := by omega
          have hd4 : (0 : Int) ≤ (p.size : Int) := by omega
          go_wp2
          exact ⟨⟨k + 1, u, by omega, by go_num, hm, c0, c1, cf, by rw [HE.out]; exact ho⟩, by simp [intOf]; omega⟩
      · have HE : Hid (scanTo xs p v (ks.take (k + 1)) = scanTo xs p v (ks.take k)) := by
          rw [Hid, ← HT2.out]
          exact scanTo_miss (by unfold hasP; simp [hsz])
        have hd1 : (q.size : Int) < (p.size : Int) := by omega
        go_wp2
        exact ⟨⟨k + 1, u, by omega, by go_num, hm, c0, c1, cf, by rw [HE.out]; exact ho⟩, by simp [intOf]; omega⟩
    · have hkn : k = nk := by omega
      subst hkn
      have HE : Hid (ks.take k = ks) := by rw [Hid, ← HM.out]; exact List.take_length
      rw [HE.out] at ho
      obtain ⟨au, cu, rfl⟩ := owns_form ho
      have hzT := World.block_lt_of_cell? _ _ c1
      dsimp only at hzT
      have e0 := hm.cell g0' (by dsimp only; omega)
      have e1 := hm.cell g1' (by dsimp only; omega)
      have ef : ∀ o, wr.frozen? ⟨w.heap.size, o, none⟩ = false := fun o => by
        have h := hm.block w.heap.size gk.2 (by omega)
        have h2 := gk.1 o
        unfold World.frozen? at h2 ⊢
        dsimp only at h2 ⊢
        rw [h]
        exact h2
      have hBr : Below w.heap.size w wr := ⟨hm.os.trans hB2.os, hm.tape.trans hB2.tape, hm.output.trans hB2.output, Nat.le_trans hB2.size hm.size, fun b hb => (hm.block b (by have := hB2.size; omega) (by have := hB2.size; omega)).trans (hB2.block b hb)⟩
      have hs2 := hB2.size
      go_wp2
      refine bodyPost_ret (v := .agg #[.int .i64 0, .slice au (scanTo xs p v ks).length cu]) (by simp [results, Try.results9, go_sem, e0, e1, ef]) rfl ?_
      have ho3 : World.ownsRow ((wr.setCell ⟨w.heap.size, 0, none⟩ (.int .i64 0)).setCell ⟨w.heap.size, 1, none⟩ (.slice au (scanTo xs p v ks).length cu)) w2.heap.size 38 4 (.slice au (scanTo xs p v ks).length cu) (scanTo xs p v ks).length (rwsC (scanTo xs p v ks)) := owns_setCell (owns_setCell ho (by dsimp only; omega) _) (by dsimp only; omega) _
      obtain ⟨F, hF⟩ := tabRR_of (c := 0) (owns_base ho3 hs2) (fit_sub hfit (fun y hy => scan_mem hy))
      exact ⟨_, F, rfl, by rw [E.out]; exact hF, by (repeat (first | exact Below.refl _ _ | assumption | refine Below.drew ?_ | refine balloc ?_ _ | refine bset ?_ (by simp; omega) _ | refine bset ?_ (by simp) _ | refine bstep ?_ (by assumption)))⟩

end Go.Proofs.Ytaahmmadcdfcpaa
