/-
  What can be settled: the program's side.
-/
import Derived.Test.YteebglgbeijolaaCan
namespace Go.Proofs.Yteebglgbeijolaa
open Go.RowKit
set_option linter.unusedSectionVars false
variable [DecidableEq Bal] [Inhabited Bal] [DecidableEq Ledg] [Inhabited Ledg] [DecidableEq Leg] [Inhabited Leg] [DecidableEq Cont] [Inhabited Cont]
attribute [local go_sem ↓] Go.wp_at_zero Go.wp_at_succ

theorem keyOfLeg_any (l : Leg) (w : World) : Calls Try.prog 133 #[.agg #[.int .i64 l.sh, .int .i64 l.ac, .int .i64 l.ast, .int .i64 l.am]] w fun e w' => e = .returned (kv l.sh l.ac l.ast) ∧ Below w.heap.size w w' := by
  go_enter Try.func133, Try.ntmps133
  go_wp2_with fail
  refine (keyOf_any _ _ _ _).mono ?_
  rintro e w1 ⟨rfl, hb1⟩
  have hB1 : Below w.heap.size w w1 := by (repeat (first | exact Below.refl _ _ | assumption | refine Below.drew ?_ | refine balloc ?_ _ | refine bset ?_ (by simp; omega) _ | refine bset ?_ (by simp) _ | refine bstep ?_ (by assumption)))
  have r0 : w1.cell? ⟨w.heap.size + 1, 0, none⟩ = some (.int .i64 0) := cell_keep hb1 (by simp [go_sem])
  have r1 : w1.cell? ⟨w.heap.size + 1, 1, none⟩ = some (.int .i64 0) := cell_keep hb1 (by simp [go_sem])
  have r2 : w1.cell? ⟨w.heap.size + 1, 2, none⟩ = some (.int .i64 0) := cell_keep hb1 (by simp [go_sem])
  have hrf : ∀ o, w1.frozen? ⟨w.heap.size + 1, o, none⟩ = false := fun o => by rw [(bcell hb1).2 _ _ (by simp)]; simp [go_sem]
  clear hb1
  unfold kv
  go_wp2
  refine bodyPost_ret (v := .agg #[.int .i64 l.sh, .int .i64 l.ac, .int .i64 l.ast]) ?_ rfl ⟨rfl, by (repeat (first | exact Below.refl _ _ | assumption | refine Below.drew ?_ | refine balloc ?_ _ | refine bset ?_ (by simp; omega) _ | refine bset ?_ (by simp) _ | refine bstep ?_ (by assumption)))⟩
  simp [results, Try.results133, go_sem, r0, r1, r2]

/-- what a book holds, within its bound -/
def smallF (f : Int → Int → Int → Option Int) : Prop := ∀ s a t, 0 ≤ (f s a t).getD 0 ∧ (f s a t).getD 0 ≤ 1000000000000
theorem smallF_of {g : Ledg} (h : ledFault g = 0) : smallF (bookF g.shards) := fun s a t => by
  unfold bookF
  split
  · rename_i hs
    rw [← hasB_get]
    exact canF_small h s.toNat (by omega) a t
  · simp

set_option maxHeartbeats 2000000 in
theorem amountsFault_any (n : Nat) (b m : Nat) (f : Int → Int → Int → Option Int) (y : Value) (ls : List Leg) (w : World) (hb : Book w b m f) (hy : legsR.V w y ls) (hs : smallF f) (hok : ∀ k, k < ls.length → legFault (ls.getD k default) = 0) :
    Calls Try.prog 157 #[.agg #[.int .i64 n, .map (some b)], y] w fun e w' => e = .returned (.int .i64 (scanI (fun k => canL f (ls.getD k default)) ls.length)) ∧ Below w.heap.size w w' := by
  obtain ⟨ay, cy, rfl, hcy, hmy, hy⟩ := hy
  unfold maxLen at hmy
  have HOK : Hid (∀ k, k < ls.length → legFault (ls.getD k default) = 0) := hok
  have HSM : Hid (smallF f) := hs
  clear hs hok
  generalize hn' : ls.length = q at *
  have HN : Hid (ls.length = q) := hn'
  clear hn'
  go_enter Try.func157, Try.ntmps157
  go_wp2
  go_loopw [10] (fun i w' => ∃ k : Nat, k ≤ q ∧ i = .int .i64 k ∧ scanI (fun k => canL f (ls.getD k default)) k = 0 ∧ w'.cell? ⟨w.heap.size, 1, none⟩ = some (.map (some b)) ∧ Below w.heap.size w w') (fun i _ => q - (intOf i).toNat)
  case atStart => exact ⟨0, Nat.zero_le _, rfl, rfl, by simp [go_sem], by (repeat (first | exact Below.refl _ _ | assumption | refine Below.drew ?_ | refine balloc ?_ _ | refine bset ?_ (by simp; omega) _ | refine bset ?_ (by simp) _ | refine bstep ?_ (by assumption)))⟩
  case round =>
    obtain ⟨k, hk, rfl, hs, hc1, hbl⟩ := hrel
    have HS : Hid (scanI (fun k => canL f (ls.getD k default)) k = 0) := hs
    clear hs
    by_cases hlt : k < q
    · obtain ⟨bx, ox, rfl, g1⟩ := hy k hlt
      have hlf := HOK.out k hlt
      obtain ⟨l, hl⟩ : ∃ l, l = ls.getD k default := ⟨_, rfl⟩
      rw [← hl] at g1 hlf
      have HL : Hid (l = ls.getD k default) := hl
      clear hl hy
      obtain ⟨⟨s0, s1⟩, ⟨t0, t1⟩, ⟨t2, t3⟩, ⟨t4, t5⟩, t6⟩ := legFault_zero hlf
      have hhs := HSM.out l.sh l.ac l.ast
      obtain ⟨a1, a2, a3, a4⟩ := legCells_below hbl g1
      have hw : kwf l.sh l.ac l.ast := ⟨wf_of (by omega) (by omega), wf_of (by omega) (by omega), wf_of (by omega) (by omega)⟩
      obtain ⟨v, hv⟩ : ∃ v, v = (f l.sh l.ac l.ast).getD 0 := ⟨_, rfl⟩
      rw [← hv] at hhs
      have HAT : Hid (canL f (ls.getD k default) = canV (v + l.am)) := by show _ = _; rw [← HL.out, canL, hv]
      have hlk : ∀ W, Below w.heap.size w W → (Instr.lookup 141 (.map (some b)) (kv l.sh l.ac l.ast) false).run Try.prog W = .ok (.int .i64 v) W := fun W hW => by rw [hv]; exact ((hb.below hW).look hw).1
      clear hv
      have v1 : IntKind.i64.wrap (v + l.am) = v + l.am := wrapId (by omega) (by omega)
      have hz : w.heap.size < wr.heap.size := World.block_lt_of_cell? _ _ hc1
      have h0 : Below w.heap.size w (wr.alloc (.cells #[.int .i64 l.sh, .int .i64 l.ac, .int .i64 l.ast, .int .i64 l.am] 97)) ∧ (wr.alloc (.cells #[.int .i64 l.sh, .int .i64 l.ac, .int .i64 l.ast, .int .i64 l.am] 97)).cell? ⟨w.heap.size, 1, none⟩ = some (.map (some b)) ∧ (wr.alloc (.cells #[.int .i64 l.sh, .int .i64 l.ac, .int .i64 l.ast, .int .i64 l.am] 97)).cell? ⟨wr.heap.size, 0, none⟩ = some (.int .i64 l.sh) ∧ (wr.alloc (.cells #[.int .i64 l.sh, .int .i64 l.ac, .int .i64 l.ast, .int .i64 l.am] 97)).cell? ⟨wr.heap.size, 1, none⟩ = some (.int .i64 l.ac) ∧ (wr.alloc (.cells #[.int .i64 l.sh, .int .i64 l.ac, .int .i64 l.ast, .int .i64 l.am] 97)).cell? ⟨wr.heap.size, 2, none⟩ = some (.int .i64 l.ast) ∧ (wr.alloc (.cells #[.int .i64 l.sh, .int .i64 l.ac, .int .i64 l.ast, .int .i64 l.am] 97)).cell? ⟨wr.heap.size, 3, none⟩ = some (.int .i64 l.am) :=
        ⟨by (repeat (first | exact Below.refl _ _ | assumption | refine Below.drew ?_ | refine balloc ?_ _ | refine bset ?_ (by simp; omega) _ | refine bset ?_ (by simp) _ | refine bstep ?_ (by assumption))), cell_keep (balloc (Below.refl _ _) _) hc1, by simp [go_sem], by simp [go_sem], by simp [go_sem], by simp [go_sem]⟩
      go_wp2
      generalize hW : wr.alloc (.cells #[.int .i64 l.sh, .int .i64 l.ac, .int .i64 l.ast, .int .i64 l.am] 97) = W at *
      clear hW a1 a2 a3 a4 g1 hc1
      go_region_held3 (fun w' => Below w.heap.size w w' ∧ w'.cell? ⟨w.heap.size, 1, none⟩ = some (.map (some b)) ∧ w'.cell? ⟨wr.heap.size, 0, none⟩ = some (.int .i64 l.sh) ∧ w'.cell? ⟨wr.heap.size, 1, none⟩ = some (.int .i64 l.ac) ∧ w'.cell? ⟨wr.heap.size, 2, none⟩ = some (.int .i64 l.ast) ∧ w'.cell? ⟨wr.heap.size, 3, none⟩ = some (.int .i64 l.am))
        ((first | exact keepS5 h0 (Below.drew (Below.refl _ _)) | exact hS3))
        (first | (go_at_call 133; refine (keyOfLeg_any l _).mono ?_; rintro e w3 ⟨rfl, hb5⟩; have hS3 := keepS5 (keepS5 h0 (Below.drew (Below.refl _ _))) hb5; have hl5 := hlk _ hS3.1))
      rename_i hH
      have hB := hH.1
      have hc2 := hH.2.1
      clear hH hS3 hl5 hlk
      generalize v + l.am = z at *
      go_wp2
      · rename_i c1
        go_ret
        refine ⟨?_, hB⟩
        rw [scanI_hit HS.out (by rw [HAT.out, canV, if_pos c1]; omega) _ hlt, HAT.out, canV, if_pos c1]
        rfl
      · rename_i c1 c2
        go_ret
        refine ⟨?_, hB⟩
        rw [scanI_hit HS.out (by rw [HAT.out, canV, if_neg (by omega), if_pos c2]; omega) _ hlt, HAT.out, canV, if_neg (by omega), if_pos c2]
        rfl
      · rename_i c1 c2
        refine ⟨⟨k + 1, by omega, by go_num, scanI_succ HS.out ?_, hc2, hB⟩, by simp [intOf]; omega⟩
        rw [HAT.out, canV, if_neg (by omega), if_neg (by omega)]
    · go_wp2
      go_ret
      have hkn : k = q := by omega
      subst hkn
      refine ⟨?_, hbl⟩
      rw [HS.out]
      rfl

theorem canF_none {n : Nat} {f : Int → Int → Int → Option Int} {c : Cont} {k : Nat} (h0 : contractFault c.id c.legs = 0) (hk : k < c.legs.length) (hs : scanI (fun k => noneL n (c.legs.getD k default)) k = 0) (h : noneL n (c.legs.getD k default) = 4) : canF n f c = 4 := by
  have hsc : scanI (fun k => noneL n (c.legs.getD k default)) c.legs.length = 4 := by rw [scanI_hit hs (by rw [h]; omega) _ hk, h]
  rw [canF, if_pos h0, if_neg (by rw [hsc]; omega), hsc]

set_option maxHeartbeats 2000000 in
theorem settleFault_any (n : Nat) (b m : Nat) (f : Int → Int → Int → Option Int) (y : Value) (c : Cont) (w : World) (hb : Book w b m f) (hy : contR.V w y c) (hs : smallF f) (hn : n ≤ 3) :
    Calls Try.prog 131 #[.agg #[.int .i64 n, .map (some b)], y] w fun e w' => e = .returned (.int .i64 (canF n f c)) ∧ Below w.heap.size w w' := by
  obtain ⟨u2, rfl, hu2⟩ := hy
  have hU2 := hu2
  obtain ⟨ay, cy, rfl, hcy, hmy, hyy⟩ := hu2
  unfold maxLen at hmy
  have HSM : Hid (smallF f) := hs
  clear hs
  go_enter Try.func131, Try.ntmps131
  go_wp2_with fail
  refine (implFault_any c.id _ c.legs _ (LegsV_below hU2 (by (repeat (first | exact Below.refl _ _ | assumption | refine Below.drew ?_ | refine balloc ?_ _ | refine bset ?_ (by simp; omega) _ | refine bset ?_ (by simp) _ | refine bstep ?_ (by assumption)))))).mono ?_
  rintro e w1 ⟨rfl, hb1⟩
  have hB1 : Below w.heap.size w w1 := by (repeat (first | exact Below.refl _ _ | assumption | refine Below.drew ?_ | refine balloc ?_ _ | refine bset ?_ (by simp; omega) _ | refine bset ?_ (by simp) _ | refine bstep ?_ (by assumption)))
  have b0 : w1.cell? ⟨w.heap.size, 0, none⟩ = some (.int .i64 n) := cell_keep hb1 (by simp [go_sem])
  have b1 : w1.cell? ⟨w.heap.size, 1, none⟩ = some (.map (some b)) := cell_keep hb1 (by simp [go_sem])
  have d1 : w1.cell? ⟨w.heap.size + 1, 1, none⟩ = some (.slice ay c.legs.length cy) := cell_keep hb1 (by simp [go_sem])
  clear hb1
  by_cases hf : contractFault c.id c.legs = 0
  · have HF : Hid (contractFault c.id c.legs = 0) := hf
    obtain ⟨_, hl2, hl8, hok, _⟩ := cf_inv hf
    rw [hf]
    clear hf
    have HOK : Hid (okTo c.legs c.legs.length) := hok
    clear hok
    generalize hm' : c.legs.length = q at *
    have HM : Hid (c.legs.length = q) := hm'
    clear hm'
    go_wp2
    go_loopw [16] (fun i w' => ∃ k : Nat, k ≤ q ∧ i = .int .i64 k ∧ scanI (fun k => noneL n (c.legs.getD k default)) k = 0 ∧ Below w1.heap.size w1 w') (fun i _ => q - (intOf i).toNat)
    case atStart => exact ⟨0, Nat.zero_le _, rfl, rfl, Below.refl _ _⟩
    case round =>
      obtain ⟨k, hk, rfl, hs, hbl⟩ := hrel
      have HS : Hid (scanI (fun k => noneL n (c.legs.getD k default)) k = 0) := hs
      clear hs
      have e0 := cell_keep hbl b0
      have e1 := cell_keep hbl b1
      have e2 := cell_keep hbl d1
      by_cases hlt : k < q
      · obtain ⟨bx, ox, rfl, g1⟩ := hyy k hlt
        have hlf : legFault (c.legs.getD k default) = 0 := (HOK.out k hlt).1
        obtain ⟨l, hl⟩ : ∃ l, l = c.legs.getD k default := ⟨_, rfl⟩
        rw [← hl] at g1 hlf
        have HL : Hid (l = c.legs.getD k default) := hl
        clear hl hyy
        obtain ⟨⟨s0, s1⟩, _⟩ := legFault_zero hlf
        obtain ⟨a1, a2, a3, a4⟩ := legCells_below (bstep hB1 hbl) g1
        have z0 := World.block_lt_of_cell? _ _ e0
        dsimp only at z0
        go_wp2_with fail
        refine (hasShard_any n _ l.sh _ hn ⟨_, rfl⟩).mono ?_
        rintro e w3 ⟨rfl, hb3⟩
        have hBB : Below w1.heap.size w1 w3 := by (repeat (first | exact Below.refl _ _ | assumption | refine Below.drew ?_ | refine balloc ?_ _ | refine bset ?_ (by simp; omega) _ | refine bset ?_ (by simp) _ | refine bstep ?_ (by assumption)))
        cases hin : inB l.sh 0 ((n : Int) - 1)
        · have hat : noneL n (c.legs.getD k default) = 4 := by
            rw [← HL.out, noneL, if_pos]
            by_cases hh : (n : Int) ≤ l.sh
            · exact hh
            · have : inB l.sh 0 ((n : Int) - 1) = true := inBi.2 ⟨by omega, by omega⟩
              rw [this] at hin
              cases hin
          have HAT : Hid (noneL n (c.legs.getD k default) = 4) := hat
          clear hat
          go_wp2
          go_ret
          refine ⟨?_, bstep hB1 hBB⟩
          rw [canF_none HF.out (by rw [HM.out]; exact hlt) HS.out HAT.out]
          rfl
        · have := inBi.1 hin
          go_wp2
          refine ⟨⟨k + 1, by omega, by go_num, scanI_succ HS.out ?_, hBB⟩, by simp [intOf]; omega⟩
          rw [← HL.out, noneL, if_neg (by omega)]
      · have hkm : k = q := by omega
        subst hkm
        have hB2 := bstep hB1 hbl
        clear hyy
        go_wp2_with fail
        refine (amountsFault_any n b m f _ c.legs _ (hb.below (by (repeat (first | exact Below.refl _ _ | assumption | refine Below.drew ?_ | refine balloc ?_ _ | refine bset ?_ (by simp; omega) _ | refine bset ?_ (by simp) _ | refine bstep ?_ (by assumption))))) (LegsV_below hU2 (by (repeat (first | exact Below.refl _ _ | assumption | refine Below.drew ?_ | refine balloc ?_ _ | refine bset ?_ (by simp; omega) _ | refine bset ?_ (by simp) _ | refine bstep ?_ (by assumption))))) HSM.out (fun i hi => (HOK.out i (by rw [HM.out] at hi; exact hi)).1)).mono ?_
        rintro e w3 ⟨rfl, hb3⟩
        go_wp2
        go_ret
        refine ⟨?_, bstep hB2 hb3⟩
        rw [canF, if_pos HF.out, if_pos (by rw [HM.out]; exact HS.out)]
        rfl
  · go_wp2
    go_ret
    refine ⟨?_, by (repeat (first | exact Below.refl _ _ | assumption | refine Below.drew ?_ | refine balloc ?_ _ | refine bset ?_ (by simp; omega) _ | refine bset ?_ (by simp) _ | refine bstep ?_ (by assumption)))⟩
    rw [canF, if_neg hf]
    rfl

set_option maxHeartbeats 1000000 in
theorem implCan_any (x y : Value) (g : Ledg) (c : Cont) (w : World) (hx : ledgR.V w x g) (hy : contR.V w y c) :
    Calls Try.prog 92 #[x, y] w fun e w' => e = .returned (.int .i64 (canG g c)) ∧ Below w.heap.size w w' := by
  have hX := hx
  have hY := hy
  obtain ⟨u, rfl, hu⟩ := hx
  obtain ⟨ax, cx, rfl⟩ := balss_form hu
  obtain ⟨u2, rfl, hu2⟩ := hy
  obtain ⟨ay, cy, rfl⟩ := legs_form hu2
  clear hu hu2
  go_enter Try.func92, Try.ntmps92
  go_wp2_with fail
  refine (implLedFault_any _ g _ (ledgR.below hX (by (repeat (first | exact Below.refl _ _ | assumption | refine Below.drew ?_ | refine balloc ?_ _ | refine bset ?_ (by simp; omega) _ | refine bset ?_ (by simp) _ | refine bstep ?_ (by assumption)))))).mono ?_
  rintro e w1 ⟨rfl, hb1⟩
  have hB1 : Below w.heap.size w w1 := by (repeat (first | exact Below.refl _ _ | assumption | refine Below.drew ?_ | refine balloc ?_ _ | refine bset ?_ (by simp; omega) _ | refine bset ?_ (by simp) _ | refine bstep ?_ (by assumption)))
  have b0 : w1.cell? ⟨w.heap.size, 0, none⟩ = some (.slice ax g.shards.length cx) := cell_keep hb1 (by simp [go_sem])
  have d0 : w1.cell? ⟨w.heap.size + 1, 0, none⟩ = some (.int .i64 c.id) := cell_keep hb1 (by simp [go_sem])
  have d1 : w1.cell? ⟨w.heap.size + 1, 1, none⟩ = some (.slice ay c.legs.length cy) := cell_keep hb1 (by simp [go_sem])
  clear hb1
  by_cases hf : ledFault g = 0
  · have HF : Hid (ledFault g = 0) := hf
    have hl3 := (ledOk_of hf).2.1
    rw [hf]
    clear hf
    have hXr := ledgR.below hX hB1
    have hYr := contR.below hY hB1
    go_wp2
    go_region_held3 (fun w' => Below w1.heap.size w1 w' ∧ w'.cell? ⟨w.heap.size, 0, none⟩ = some (.slice ax g.shards.length cx) ∧ w'.cell? ⟨w.heap.size + 1, 0, none⟩ = some (.int .i64 c.id) ∧ w'.cell? ⟨w.heap.size + 1, 1, none⟩ = some (.slice ay c.legs.length cy))
      ((refine keepN3 ?_ b0 d0 d1; (repeat (first | exact Below.refl _ _ | assumption | refine Below.drew ?_ | refine balloc ?_ _ | refine bstep ?_ (by assumption)))))
      (first | (go_at_call 93; refine (bookOf_any _ g _ (ledgR.below hXr (Below.drew (Below.refl _ _))) HF.out).mono ?_; rintro e w2 ⟨b, rfl, hbb, hK, hb2⟩) | (go_at_call 131; refine (settleFault_any g.shards.length b 54 (bookF g.shards) _ c _ hK (contR.below (contR.below hYr (Below.drew (Below.refl _ _))) hb2) (smallF_of HF.out) hl3).mono ?_; rintro e w3 ⟨rfl, hb3⟩))
    rename_i hH
    have hBZ := bstep hB1 hH.1
    clear hH
    go_wp2
    go_ret
    refine ⟨?_, hBZ⟩
    rw [canG, if_pos HF.out]
    rfl
  · go_wp2
    go_ret
    refine ⟨?_, by (repeat (first | exact Below.refl _ _ | assumption | refine Below.drew ?_ | refine balloc ?_ _ | refine bset ?_ (by simp; omega) _ | refine bset ?_ (by simp) _ | refine bstep ?_ (by assumption)))⟩
    rw [canG, if_neg hf]
    rfl

end Go.Proofs.Yteebglgbeijolaa
