import Derived.Test.YtncmdeijimgchaaGreatPrnRunBallotLaw12
import Derived.Test.YtncmdeijimgchaaGreatPrnRunBallotLaw19
import Derived.BigQuiet
import Derived.Deep.QuietTactic
import Derived.Deep.RegionHeld3
import Derived.Test.YtncmdeijimgchaaGreatPrnRunBallotLaw7
import Derived.Test.YtncmdeijimgchaaGreatPrnRunBallotLaw8
import Derived.Deep.DrawnRows
import Derived.Test.YtncmdeijimgchaaGreatPrnRunBallotLaw17
import Derived.Test.YtncmdeijimgchaaGreatPrnRunBallotLaw20
import Derived.Deep.DeepCutAuto

/-
  l9All, the document's.
-/
set_option linter.unusedSimpArgs false
set_option linter.unusedVariables false
namespace Go.Proofs.YtncmdeijimgchaaGreat
open Go.RowKit
set_option linter.unusedSectionVars false
variable [DecidableEq Vot] [Inhabited Vot] [DecidableEq Slt] [Inhabited Slt] [DecidableEq SltR] [Inhabited SltR] [DecidableEq Bal] [Inhabited Bal] [DecidableEq Ledg] [Inhabited Ledg] [DecidableEq Leg] [Inhabited Leg] [DecidableEq Acc] [Inhabited Acc] [DecidableEq AccR] [Inhabited AccR] [DecidableEq AccsR] [Inhabited AccsR] [DecidableEq SltsR] [Inhabited SltsR]
attribute [local go_sem ↓] Go.wp_at_zero Go.wp_at_succ

set_option maxRecDepth 20000 in
set_option maxHeartbeats 4000000 in
theorem l9All_u (x : Value) (l : List Acc) (w : World) (hx : accsR.V w x l) (hl : ListOk l) :
    Calls Tryz.prog 28 #[x] w fun e w' => ∃ v F, e = .returned v ∧ accsR.O w' w.heap.size F v l ∧ Below w.heap.size w w' := by
  obtain ⟨a, cx, rfl, hcx, hmx, hx⟩ := accs_at hx
  unfold maxLen at hmx
  have hXs : Hid (∀ k, k < l.length → ∃ b o p q, a = some ⟨b, o, none⟩ ∧ w.cell? ⟨b, o + k, none⟩ = some (.slice p (l.getD k default).slots.length q) ∧ accR.V w (.agg #[.slice p (l.getD k default).slots.length q]) (l.getD k default)) := hx
  have HOk : Hid (∀ k, k < l.length → AccOk (l.getD k default).slots) := fun k hk => accOk_of (hl.ok k hk)
  have hn5 := hl.hi
  clear hx hl
  obtain ⟨n, hn'⟩ : ∃ n, n = l.length := ⟨_, rfl⟩
  have HN : Hid (l.length = n) := hn'.symm
  rw [← hn'] at hcx hXs HOk hn5 ⊢
  clear hn'
  have hs0 : ∃ a c' F, (Value.slice (some ⟨w.heap.size, 0, none⟩) 0 0) = .slice a 0 c' ∧ accsR.O (w.alloc (.cells #[] 67)) w.heap.size F (.slice a 0 c') (l.take 0) := ⟨_, _, _, rfl, accs_lit w⟩
  go_enter Tryz.func28, Tryz.ntmps28
  go_wp2
  go_loopw [3, 4] (fun t i w' => ∃ k : Nat, k ≤ n ∧ i = .int .i64 k ∧ (∃ a c' F, t = .slice a k c' ∧ accsR.O w' w.heap.size F (.slice a k c') (l.take k)) ∧ Below w.heap.size w w') (fun t i _ => n - (intOf i).toNat)
  case atStart => exact ⟨0, Nat.zero_le _, rfl, hs0, by (repeat (first | exact Below.refl _ _ | assumption | refine Below.drew ?_ | refine balloc ?_ _ | refine bset ?_ (by simp; omega) _ | refine bset ?_ (by simp) _ | refine bstep ?_ (by assumption)))⟩
  case round =>
    clear hs0
    obtain ⟨k, hk, rfl, ⟨as_, cs_, F, rfl, ho⟩, hbl⟩ := hrel
    have HO : Hid (accsR.O wr w.heap.size F (.slice as_ k cs_) (l.take k)) := ho
    clear ho
    have hwz := hbl.size
    by_cases hlt : k < n
    · obtain ⟨b, o, p, q, rfl, hc, hV⟩ := hXs.out k hlt
      have hok := HOk.out k hlt
      have HL : Hid (l.take (k + 1) = l.take k ++ [l.getD k default]) := take_accs l (by rw [HN.out]; exact hlt)
      replace hc := cell_keep hbl hc
      have zb : b < wr.heap.size := World.block_lt_of_cell? wr _ hc
      have HCp : Hid (∀ W, Below w.heap.size w W → Calls Tryz.prog 60 #[.agg #[.slice p (l.getD k default).slots.length q]] W fun e w' => ∃ v F, e = .returned v ∧ accR.O w' W.heap.size F v (l.getD k default) ∧ Below W.heap.size W w') := fun W hW => l9Copy_u _ (l.getD k default) W (accR.below hV hW) (Nat.le_trans hok.len (by omega)) (fun j hj => Nat.le_trans (sltOk_of (hok.ok j hj)).len (by omega))
      clear hV hok
      generalize l.getD k default = y at *
      go_wp2_with fail
      refine (HCp.out _ (by (repeat (first | exact Below.refl _ _ | assumption | refine Below.drew ?_ | refine balloc ?_ _ | refine bset ?_ (by simp; omega) _ | refine bset ?_ (by simp) _ | refine bstep ?_ (by assumption))))).mono ?_
      rintro e w2 ⟨v2, F2, rfl, o2, hb2⟩
      obtain ⟨a2, c2, rfl, _⟩ := acc_cells o2
      have hB2 : Below wr.heap.size wr w2 := by (repeat (first | exact Below.refl _ _ | assumption | refine Below.drew ?_ | refine balloc ?_ _ | refine bset ?_ (by simp; omega) _ | refine bset ?_ (by simp) _ | refine bstep ?_ (by assumption)))
      have hBw : Below w.heap.size w w2 := bstep hbl hB2
      have hz2 := hB2.size
      have HO2 : Hid (accsR.O w2 w.heap.size F (.slice as_ k cs_) (l.take k)) := accsR.keep HO.out hB2
      have HFl : Hid (∀ b, F b → b < wr.heap.size) := fun b hb => (accsR.rng HO.out b hb).2
      have HF2 : Hid (∀ b, F2 b → wr.heap.size ≤ b) := fun b hb => by have := (accR.rng o2 b hb).1; first | exact this | (simp at this; omega)
      have HU : Hid (accR.O w2 w.heap.size F2 (.agg #[.slice a2 y.slots.length c2]) y) := accR.base o2 (by first | exact hwz | (simp; omega))
      clear hb2 o2 HCp HO hc
      go_wp2_with (at_builtin; refine wpl_appA _ rfl _ _ rfl w.heap.size F F2 _ (l.take k) y w2.heap.size a2 c2 rfl rfl ?a1 ?a2 ?a3 ?a4 ?a5 ?a6 ?_)
      case a1 => exact accsR.alloc HO2.out _
      case a2 => exact accR.alloc HU.out _
      case a3 => exact fun b h1 h2 => by have := HFl.out b h1; have := HF2.out b h2; omega
      case a4 => simp [go_sem]
      case a5 => rw [List.length_take, HN.out]; omega
      case a6 => simp; omega
      intro v3 w3 F3 o3 hb3 _
      rw [← HL.out] at o3
      obtain ⟨a3, c3, e3⟩ := accs_form (accsR.ofO o3)
      rw [show (l.take (k + 1)).length = k + 1 by rw [List.length_take, HN.out]; omega] at e3
      subst e3
      have o3' : ∃ a c' F, (Value.slice a3 (k + 1) c3) = .slice a (k + 1) c' ∧ accsR.O w3 w.heap.size F (.slice a (k + 1) c') (l.take (k + 1)) := ⟨_, _, F3, rfl, o3⟩
      have hB4 : Below w.heap.size w w3 := Below.trans (balloc hBw _) hb3
      clear o3 hb3
      go_wp2
      exact ⟨⟨k + 1, by omega, by go_num, o3', hB4⟩, by simp [intOf]; omega⟩
    · have hkn : k = n := by omega
      subst hkn
      have ho := HO.out
      rw [List.take_of_length_le (by rw [HN.out]; exact Nat.le_refl _)] at ho
      have HO2 : Hid (accsR.O wr w.heap.size F (.slice as_ k cs_) l) := ho
      clear ho HO
      go_wp2
      refine bodyPost_ret (v := .slice as_ k cs_) (by simp [results, Tryz.results28, go_sem]) rfl ⟨_, F, rfl, HO2.out, hbl⟩
end Go.Proofs.YtncmdeijimgchaaGreat

/-
  PickValue, the specification's.
-/
set_option linter.unusedSimpArgs false
namespace Go.Proofs.YtncmdeijimgchaaGreat
open Go.RowKit
set_option linter.unusedSectionVars false
variable [DecidableEq Vot] [Inhabited Vot] [DecidableEq Slt] [Inhabited Slt] [DecidableEq Bal] [Inhabited Bal] [DecidableEq Ledg] [Inhabited Ledg] [DecidableEq Leg] [Inhabited Leg]
attribute [local go_sem ↓] Go.wp_at_zero Go.wp_at_succ

set_option maxHeartbeats 1000000 in
theorem l8Pick_any (x : Value) (xs : List Vot) (own : Int) (w : World) (hx : votsR.V w x xs) :
    Calls Tryz.prog 31 #[x, .int .i64 own] w fun e w' => e = .returned (.int .i64 (best own xs xs.length).val) ∧ Below w.heap.size w w' := by
  obtain ⟨ax, cx, rfl, hcx, hmx, hx⟩ := hx
  unfold maxLen at hmx
  have HP : Hid ((best own xs xs.length).val = if (best 0 xs xs.length).bal < 0 then own else (best 0 xs xs.length).val) := best_pick own xs _
  generalize hn' : xs.length = n at *
  clear hn'
  go_enter Tryz.func31, Tryz.ntmps31
  go_wp2_with fail
  refine (l8None_any _).mono ?_
  rintro e w1 ⟨rfl, hb1⟩
  go_wp2
  go_loopw [6] (fun i w' => ∃ k : Nat, k ≤ n ∧ i = .int .i64 k ∧ w'.cell? ⟨w1.heap.size, 0, none⟩ = some (.int .i64 (best 0 xs k).bal) ∧ w'.cell? ⟨w1.heap.size, 1, none⟩ = some (.int .i64 (best 0 xs k).val) ∧ (∀ o, w'.frozen? ⟨w1.heap.size, o, none⟩ = false) ∧ Below w.heap.size w w') (fun i _ => n - (intOf i).toNat)
  case atStart => exact ⟨0, Nat.zero_le _, rfl, by simp [go_sem, best], by simp [go_sem, best], by simp [go_sem], by (repeat (first | exact Below.refl _ _ | assumption | refine Below.drew ?_ | refine balloc ?_ _ | refine bset ?_ (by simp; omega) _ | refine bset ?_ (by simp) _ | refine bstep ?_ (by assumption)))⟩
  case round =>
    have hs1 := hb1.size
    clear hb1
    obtain ⟨k, hk, rfl, c0, c1, cf, hbl⟩ := hrel
    have z0 : w1.heap.size < wr.heap.size := World.block_lt_of_cell? wr _ c0
    obtain ⟨q, hq⟩ : ∃ q, q = best 0 xs k := ⟨_, rfl⟩
    have HQ : Hid (best 0 xs k = q) := hq.symm
    rw [← hq] at c0 c1
    clear hq
    by_cases hlt : k < n
    · obtain ⟨bx, ox, rfl, g1⟩ := hx k hlt
      obtain ⟨l, hl⟩ : ∃ l, l = xs.getD k default := ⟨_, rfl⟩
      rw [← hl] at g1
      have HL : Hid (l = xs.getD k default) := hl
      clear hl
      have zb : bx < w1.heap.size := by have := World.block_lt_of_cell? w _ g1.1; dsimp only at this; omega
      obtain ⟨a1, a2⟩ := votCells_below hbl g1
      clear g1 hx
      have hst : Hid (best 0 xs (k + 1) = if q.bal < l.bal then l else q) := by show _ = _; rw [HL.out, ← HQ.out]; rfl
      go_wp2
      go_quiet (fail)
      go_wp2
      · rename_i hle
        refine ⟨⟨k + 1, by omega, by go_num, ?_, ?_, by simp [go_sem, cf], ?_⟩, by simp [intOf]; omega⟩
        · rw [hst.out, if_pos hle]; simp [go_sem, c0]
        · rw [hst.out, if_pos hle]; simp [go_sem, c1]
        · exact bset (bset (bdrewN hbl _) (by simp; omega) _) (by simp; omega) _
      · rename_i hle
        refine ⟨⟨k + 1, by omega, by go_num, ?_, ?_, by simp [go_sem, cf], bdrewN hbl _⟩, by simp [intOf]; omega⟩
        · rw [hst.out, if_neg (by omega)]; simp [go_sem, c0]
        · rw [hst.out, if_neg (by omega)]; simp [go_sem, c1]
    · have hkn : k = n := by omega
      subst hkn
      rw [HQ.out] at HP
      go_wp2
      · rename_i hle
        go_ret
        exact ⟨by rw [HP.out, if_pos hle]; rfl, hbl⟩
      · rename_i hle
        go_ret
        exact ⟨by rw [HP.out, if_neg (by omega)]; rfl, hbl⟩
end Go.Proofs.YtncmdeijimgchaaGreat

/-
  RunBallot, the document's.
-/
set_option linter.unusedSimpArgs false
set_option linter.unusedVariables false
namespace Go.Proofs.YtncmdeijimgchaaGreat
open Go.RowKit
set_option linter.unusedSectionVars false
variable [DecidableEq Vot] [Inhabited Vot] [DecidableEq Slt] [Inhabited Slt] [DecidableEq SltR] [Inhabited SltR] [DecidableEq Bal] [Inhabited Bal] [DecidableEq Ledg] [Inhabited Ledg] [DecidableEq Leg] [Inhabited Leg] [DecidableEq Acc] [Inhabited Acc] [DecidableEq AccR] [Inhabited AccR] [DecidableEq AccsR] [Inhabited AccsR] [DecidableEq SltsR] [Inhabited SltsR]
attribute [local go_sem ↓] Go.wp_at_zero Go.wp_at_succ

set_option maxRecDepth 20000 in
set_option maxHeartbeats 16000000 in
theorem specRun_u (x xr : Value) (l : List Acc) (R : List Int) (c s b own : Int) (w : World) (hx : accsR.V w x l) (hr : IntsV w xr R) :
    Calls Tryz.prog 6 #[x, xr, .int .i64 c, .int .i64 s, .int .i64 b, .int .i64 own] w (RunE (runD l R c s b own) w) := by
  have HSf : Hid (∀ W, Below w.heap.size w W → Calls Tryz.prog 24 #[x, .int .i64 c, .int .i64 s] W (SfE l c s W)) := fun W hW => specSlotsFor_u x l c s W (accsR.below hx hW)
  have HCp : Hid (∀ W, Below w.heap.size w W → ListOk l → Calls Tryz.prog 28 #[x] W fun e w' => ∃ v F, e = .returned v ∧ accsR.O w' W.heap.size F v l ∧ Below W.heap.size W w') := fun W hW hl => l9All_u x l W (accsR.below hx hW) hl
  obtain ⟨a, cx, rfl⟩ := accs_form hx
  obtain ⟨ar, cr, rfl, hrc, hrm, hri⟩ := hr
  unfold maxLen at hrm
  clear hx
  have hD0 : Hid (¬ freC l c s = 0 → runD l R c s b own = ⟨freC l c s, 0, []⟩) := fun h => by unfold runD; rw [if_neg h]
  have hD1 : Hid (∀ g, freC l c s = 0 → balF R l.length b own = g → ¬ g = 0 → runD l R c s b own = ⟨g, 0, []⟩) := fun g h h1 h2 => by unfold runD; rw [if_pos h, h1, if_neg h2]
  have hD2 : Hid (freC l c s = 0 → balF R l.length b own = 0 → ((prN l R c s b R.length).did.length : Int) < quoV l.length → runD l R c s b own = ⟨4, 0, (prN l R c s b R.length).accs⟩) := fun h h1 h2 => by unfold runD; rw [if_pos h, if_pos h1, if_pos h2]
  have hD3 : Hid (freC l c s = 0 → balF R l.length b own = 0 → quoV l.length ≤ ((prN l R c s b R.length).did.length : Int) → runD l R c s b own = ⟨0, (best own (prN l R c s b R.length).old (prN l R c s b R.length).old.length).val, acN (prN l R c s b R.length).accs (prN l R c s b R.length).did c s b (best own (prN l R c s b R.length).old (prN l R c s b R.length).old.length).val (prN l R c s b R.length).did.length⟩) := fun h h1 h2 => by unfold runD; rw [if_pos h, if_pos h1, if_neg (by omega)]
  have HLen : Hid (∀ k, (prN l R c s b k).accs.length = l.length) := fun k => prN_len l R c s b k
  have HDid : Hid (∀ k, (prN l R c s b k).did.length ≤ k ∧ (prN l R c s b k).old.length = (prN l R c s b k).did.length) := fun k => prN_did l R c s b k
  have HPin : Hid (BalOk R l.length b own → ∀ a ∈ (prN l R c s b R.length).did, 0 ≤ a ∧ a < l.length) := fun h => prN_in l R c s b h.inn R.length (Nat.le_refl _)
  have HBv : Hid (votB ⟨b, own⟩ = false → balF R l.length b own = 3) := fun h => balF_vote h
  have HBb : Hid (votB ⟨b, own⟩ = true → ∀ k, k < R.length → scanI (badAt R l.length) k = 0 → inB (R.getD k 0) 0 ((l.length : Int) - 1) = false → balF R l.length b own = 3) := fun h k hk hs hb => balF_bad h hk hs hb
  have HBr : Hid (votB ⟨b, own⟩ = true → scanI (badAt R l.length) R.length = 0 → ∀ k, k + 1 < R.length → scanI (riseAt R) (k + 1) = 0 → R.getD (k + 1) 0 ≤ R.getD k 0 → balF R l.length b own = 7) := fun h h0 k hk hs hb => balF_rise h h0 hk hs (by omega)
  have HBo : Hid (votB ⟨b, own⟩ = true → scanI (badAt R l.length) R.length = 0 → scanI (riseAt R) R.length = 0 → balF R l.length b own = 0) := fun h h0 h1 => balF_ok h h0 h1
  have HRi : Hid (∀ i, i < R.length → ∃ bb o, ar = some ⟨bb, o, none⟩ ∧ w.cell? ⟨bb, o + i, none⟩ = some (.int .i64 (R.getD i 0))) := hri
  clear hri
  obtain ⟨n, hn'⟩ : ∃ n, n = l.length := ⟨_, rfl⟩
  have HN : Hid (l.length = n) := hn'.symm
  rw [← hn'] at HSf hD1 hD2 hD3 HLen HPin HCp HBv HBb HBr HBo ⊢
  clear hn'
  obtain ⟨m, hm'⟩ : ∃ m, m = R.length := ⟨_, rfl⟩
  have HMr : Hid (R.length = m) := hm'.symm
  rw [← hm'] at hD2 hD3 HPin HBb HBr HBo HRi hrc ⊢
  clear hm'
  obtain ⟨Z, hZ⟩ : ∃ Z, Z = runD l R c s b own := ⟨_, rfl⟩
  rw [← hZ] at hD0 hD1 hD2 hD3 ⊢
  clear hZ
  go_enter Tryz.func6, Tryz.ntmps6
  go_wp2_with fail
  refine (HSf.out _ (by (repeat (first | exact Below.refl _ _ | assumption | refine Below.drew ?_ | refine balloc ?_ _ | refine bset ?_ (by simp; omega) _ | refine bset ?_ (by simp) _ | refine bstep ?_ (by assumption))))).mono ?_
  rintro e w1 ⟨v1, F1, rfl, o1, hb1⟩
  obtain ⟨u1, G1, rfl, o1, _⟩ := o1
  obtain ⟨a1, c1, rfl⟩ := slts_form (sltsR.ofO o1)
  have hB1 : Below w.heap.size w w1 := by (repeat (first | exact Below.refl _ _ | assumption | refine Below.drew ?_ | refine balloc ?_ _ | refine bset ?_ (by simp; omega) _ | refine bset ?_ (by simp) _ | refine bstep ?_ (by assumption)))
  have hz1 := hb1.size
  simp at hz1
  obtain ⟨c1', f1⟩ := bcell hb1
  have r0 : w1.cell? ⟨w.heap.size, 0, none⟩ = some (.int .i64 0) := cell_keep hb1 (by simp [go_sem])
  have r1 : w1.cell? ⟨w.heap.size, 1, none⟩ = some (.int .i64 0) := cell_keep hb1 (by simp [go_sem])
  have r2 : w1.cell? ⟨w.heap.size, 2, none⟩ = some (.slice none 0 0) := cell_keep hb1 (by simp [go_sem])
  have rf : ∀ o, w1.frozen? ⟨w.heap.size, o, none⟩ = false := fun o => by rw [f1 _ _ (by simp; try omega)]; simp [go_sem]
  clear hb1 c1' f1 HSf o1
  have zr : w.heap.size < w1.heap.size := World.block_lt_of_cell? w1 _ r0
  generalize (slotsD l c s).slots.length = sl at *
  by_cases hf : freC l c s = 0
  rotate_left
  · have hc : (slotsD l c s).code = freC l c s := by rw [slotsD_code hf]
    have HC : Hid (Z = ⟨freC l c s, 0, []⟩) := hD0.out hf
    rw [hc]
    clear hc HCp hD0 hD1 hD2 hD3 HLen HDid HPin HBv HBb HBr HBo
    generalize freC l c s = g at *
    have hg' : (g != 0) = true := by simp [hf]
    go_wp2
    exact bodyPost_ret (v := .agg #[.int .i64 g, .int .i64 0, .slice none 0 0]) (by simp [results, Tryz.results6, go_sem, r0, r1, r2, rf, zr, Nat.ne_of_lt zr]) rfl (runE_err HC.out (by (repeat (first | refine bset ?_ (by simp; omega) _ | refine bset ?_ (by simp) _ | refine balloc ?_ _ | assumption))))
  have hc : (slotsD l c s).code = 0 := by rw [slotsD_ok hf]
  rw [hc]
  have HLk : Hid (ListOk l) := listOk_of (freC_ok hf).1
  have hn1 : 1 ≤ n ∧ n ≤ 5 := by have h1 := HLk.out.lo; have h2 := HLk.out.hi; rw [HN.out] at h1 h2; exact ⟨h1, h2⟩
  have hD1' : Hid (∀ g, balF R n b own = g → ¬ g = 0 → Z = ⟨g, 0, []⟩) := fun g h h2 => hD1.out g hf h h2
  have hD2' : Hid (balF R n b own = 0 → ((prN l R c s b m).did.length : Int) < quoV n → Z = ⟨4, 0, (prN l R c s b m).accs⟩) := fun h h2 => hD2.out hf h h2
  have hD3' : Hid (balF R n b own = 0 → quoV n ≤ ((prN l R c s b m).did.length : Int) → Z = ⟨0, (best own (prN l R c s b m).old (prN l R c s b m).old.length).val, acN (prN l R c s b m).accs (prN l R c s b m).did c s b (best own (prN l R c s b m).old (prN l R c s b m).old.length).val (prN l R c s b m).did.length⟩) := fun h h2 => hD3.out hf h h2
  clear hc hf hD0 hD1 hD2 hD3
  have hvo : votB ⟨b, own⟩ = (inB b 0 1000 && inB own 1 2) := rfl
  rw [hvo] at HBv HBb HBr HBo
  clear hvo
  cases hq1 : inB b 0 1000
  · have HC : Hid (Z = ⟨3, 0, []⟩) := hD1'.out 3 (HBv.out (by rw [hq1]; rfl)) (by omega)
    clear HCp hD1' hD2' hD3' HLen HDid HPin HBv HBb HBr HBo
    go_wp2_with (first | (go_at_call 25; refine (l8Ballot_any _ _).mono ?_; rintro e w' ⟨rfl, rfl⟩; rw [hq1]))
    exact bodyPost_ret (v := .agg #[.int .i64 3, .int .i64 0, .slice none 0 0]) (by simp [results, Tryz.results6, go_sem, r0, r1, r2, rf, zr, Nat.ne_of_lt zr]) rfl (runE_err HC.out (by (repeat (first | refine bset ?_ (by simp; omega) _ | refine bset ?_ (by simp) _ | refine balloc ?_ _ | assumption))))
  cases hq2 : inB own 1 2
  · have HC : Hid (Z = ⟨3, 0, []⟩) := hD1'.out 3 (HBv.out (by rw [hq1, hq2]; rfl)) (by omega)
    clear HCp hD1' hD2' hD3' HLen HDid HPin HBv HBb HBr HBo
    go_wp2_with (first | (go_at_call 25; refine (l8Ballot_any _ _).mono ?_; rintro e w' ⟨rfl, rfl⟩; rw [hq1]) | (go_at_call 26; refine (l8Value_any _ _).mono ?_; rintro e w' ⟨rfl, rfl⟩; rw [hq2]))
    exact bodyPost_ret (v := .agg #[.int .i64 3, .int .i64 0, .slice none 0 0]) (by simp [results, Tryz.results6, go_sem, r0, r1, r2, rf, zr, Nat.ne_of_lt zr]) rfl (runE_err HC.out (by (repeat (first | refine bset ?_ (by simp; omega) _ | refine bset ?_ (by simp) _ | refine balloc ?_ _ | assumption))))
  have HBb' : Hid (∀ k, k < m → scanI (badAt R n) k = 0 → inB (R.getD k 0) 0 ((n : Int) - 1) = false → Z = ⟨3, 0, []⟩) := fun k hk hs hb => hD1'.out 3 (HBb.out (by rw [hq1, hq2]; rfl) k hk hs hb) (by omega)
  have HBr' : Hid (scanI (badAt R n) m = 0 → ∀ k, k + 1 < m → scanI (riseAt R) (k + 1) = 0 → R.getD (k + 1) 0 ≤ R.getD k 0 → Z = ⟨7, 0, []⟩) := fun h0 k hk hs hb => hD1'.out 7 (HBr.out (by rw [hq1, hq2]; rfl) h0 k hk hs hb) (by omega)
  have HBo' : Hid (scanI (badAt R n) m = 0 → scanI (riseAt R) m = 0 → balF R n b own = 0) := fun h0 h1 => HBo.out (by rw [hq1, hq2]; rfl) h0 h1
  clear HBv HBb HBr HBo hD1'
  go_wp2_with (first | (go_at_call 25; refine (l8Ballot_any _ _).mono ?_; rintro e w' ⟨rfl, rfl⟩; rw [hq1]) | (go_at_call 26; refine (l8Value_any _ _).mono ?_; rintro e w' ⟨rfl, rfl⟩; rw [hq2]))
  clear hq1 hq2
  obtain ⟨W1, hW1⟩ : ∃ W1, W1 = w1.alloc (.cells #[.int .i64 0, .slice a1 sl c1] 58) := ⟨_, rfl⟩
  have hBW : Below w1.heap.size w1 W1 := by rw [hW1]; exact balloc (Below.refl _ _) _
  rw [← hW1]
  clear hW1
  have hB2 : Below w.heap.size w W1 := bstep hB1 hBW
  replace r0 := cell_keep hBW r0
  replace r1 := cell_keep hBW r1
  replace r2 := cell_keep hBW r2
  replace rf : ∀ o, W1.frozen? ⟨w.heap.size, o, none⟩ = false := fun o => by rw [(bcell hBW).2 _ _ (by omega)]; exact rf o
  have zr1 : w.heap.size < W1.heap.size := World.block_lt_of_cell? W1 _ r0
  clear hBW hB1 zr hz1
  go_loopw [14] (fun i w' => ∃ k : Nat, k ≤ m ∧ i = .int .i64 k ∧ Hid (scanI (badAt R n) k = 0) ∧ Below W1.heap.size W1 w') (fun i _ => m - (intOf i).toNat)
  case atStart => exact ⟨0, Nat.zero_le _, rfl, rfl, Below.refl _ _⟩
  case round =>
    obtain ⟨k, hk, rfl, HS, hbl⟩ := hrel
    have hBr : Below w.heap.size w wr := bstep hB2 hbl
    by_cases hlt : k < m
    · obtain ⟨bb, o, rfl, hcell⟩ := HRi.out k hlt
      replace hcell := cell_keep hBr hcell
      have HBk : Hid (inB (R.getD k 0) 0 ((n : Int) - 1) = false → Z = ⟨3, 0, []⟩) := fun h => HBb'.out k hlt HS.out h
      have HSk : Hid (inB (R.getD k 0) 0 ((n : Int) - 1) = true → scanI (badAt R n) (k + 1) = 0) := fun h => scanI_succ HS.out (badAt_ok h)
      generalize R.getD k 0 = q at *
      cases hin : inB q 0 ((n : Int) - 1)
      · have HC : Hid (Z = ⟨3, 0, []⟩) := HBk.out hin
        replace r0 := cell_keep hbl r0
        replace r1 := cell_keep hbl r1
        replace r2 := cell_keep hbl r2
        replace rf : ∀ o, wr.frozen? ⟨w.heap.size, o, none⟩ = false := fun o => by rw [(bcell hbl).2 _ _ (by omega)]; exact rf o
        clear HBk HSk HCp hD2' hD3' HLen HDid HPin HBb' HBr' HBo'
        go_wp2_with (first | (go_at_call 27; refine (l1In_any _ _ _ _).mono ?_; rintro e w' ⟨rfl, rfl⟩; rw [hin]))
        exact bodyPost_ret (v := .agg #[.int .i64 3, .int .i64 0, .slice none 0 0]) (by simp [results, Tryz.results6, go_sem, r0, r1, r2, rf]) rfl (runE_err HC.out (by (repeat (first | refine bset ?_ (by simp; omega) _ | refine bset ?_ (by simp) _ | refine balloc ?_ _ | assumption))))
      · have HS2 := HSk.out hin
        clear HBk HSk
        go_wp2_with (first | (go_at_call 27; refine (l1In_any _ _ _ _).mono ?_; rintro e w' ⟨rfl, rfl⟩; rw [hin]))
        exact ⟨⟨k + 1, by omega, by go_num, HS2, hbl⟩, by simp [intOf]; omega⟩
    · have hkm : k = m := by omega
      subst hkm
      replace r0 := cell_keep hbl r0
      replace r1 := cell_keep hbl r1
      replace r2 := cell_keep hbl r2
      replace rf : ∀ o, wr.frozen? ⟨w.heap.size, o, none⟩ = false := fun o => by rw [(bcell hbl).2 _ _ (by omega)]; exact rf o
      have zr2 : w.heap.size < wr.heap.size := World.block_lt_of_cell? wr _ r0
      have HBr2 : Hid (∀ i, i + 1 < k → scanI (riseAt R) (i + 1) = 0 → R.getD (i + 1) 0 ≤ R.getD i 0 → Z = ⟨7, 0, []⟩) := fun i hi hs hb => HBr'.out HS.out i hi hs hb
      have HBo2 : Hid (scanI (riseAt R) k = 0 → balF R n b own = 0) := fun h => HBo'.out HS.out h
      clear HBb' HBr' HBo' HS hlt
      obtain ⟨w2, hw2⟩ : ∃ w2, w2 = wr := ⟨_, rfl⟩
      rw [← hw2] at hBr r0 r1 r2 rf zr2 ⊢
      clear hw2 hbl hB2
      go_wp2
      go_loopw [15] (fun i w' => ∃ j : Nat, 1 ≤ j ∧ (j ≤ k ∨ j = 1) ∧ i = .int .i64 j ∧ Hid (scanI (riseAt R) j = 0) ∧ Below w2.heap.size w2 w') (fun i _ => k - (intOf i).toNat)
      case atStart => exact ⟨1, Nat.le_refl _, .inr rfl, rfl, by show scanI (riseAt R) 1 = 0; exact scanI_succ rfl (riseAt_zero R), Below.refl _ _⟩
      case round =>
        obtain ⟨j, hj1, hjk, rfl, HS, hbl⟩ := hrel
        have hBq : Below w.heap.size w wr := bstep hBr hbl
        by_cases hlt : j < k
        · obtain ⟨i, rfl⟩ : ∃ i, j = i + 1 := ⟨j - 1, by omega⟩
          obtain ⟨bb, o, rfl, hcell⟩ := HRi.out (i + 1) hlt
          obtain ⟨bb', o', he, hcell'⟩ := HRi.out i (by omega)
          simp only [Option.some.injEq, Addr.mk.injEq, and_true] at he
          obtain ⟨rfl, rfl⟩ := he
          replace hcell := cell_keep hBq hcell
          replace hcell' := cell_keep hBq hcell'
          have HB7 : Hid (R.getD (i + 1) 0 ≤ R.getD i 0 → Z = ⟨7, 0, []⟩) := fun h => HBr2.out i hlt HS.out h
          have HSk : Hid (R.getD i 0 < R.getD (i + 1) 0 → scanI (riseAt R) (i + 1 + 1) = 0) := fun h => scanI_succ HS.out (riseAt_ok h)
          generalize R.getD i 0 = q at *
          generalize R.getD (i + 1) 0 = q' at *
          have hw1 : IntKind.i64.wrap (((i + 1 : Nat) : Int) - 1) = (i : Int) := by rw [IntKind.wrap_i64]; omega
          have hw2 : (((i + 1 : Nat) : Int) - 1) = (i : Int) := by omega
          have e1 : ((i + 1 : Nat) : Int) < k := by omega
          have e2 : (i : Int) < k := by omega
          have e3 : (0 : Int) ≤ i := by omega
          have e4 : (0 : Int) ≤ ((i + 1 : Nat) : Int) := by omega
          obtain ⟨ii, hii⟩ : ∃ ii : Nat, ii = i + 1 := ⟨_, rfl⟩
          have HII : Hid (ii = i + 1) := hii
          rw [← hii] at hcell hw1 hw2 e1 e4 HSk ⊢
          clear hii
          by_cases hle : q' ≤ q
          · have HC : Hid (Z = ⟨7, 0, []⟩) := HB7.out (by omega)
            replace r0 := cell_keep hbl r0
            replace r1 := cell_keep hbl r1
            replace r2 := cell_keep hbl r2
            replace rf : ∀ o, wr.frozen? ⟨w.heap.size, o, none⟩ = false := fun o => by rw [(bcell hbl).2 _ _ (by omega)]; exact rf o
            clear HB7 HSk HCp hD2' hD3' HLen HDid HPin HBr2 HBo2
            go_wp2
            go_quiet (fail)
            go_wp2
            exact bodyPost_ret (v := .agg #[.int .i64 7, .int .i64 0, .slice none 0 0]) (by simp [results, Tryz.results6, go_sem, r0, r1, r2, rf]) rfl (runE_err HC.out (by first | ((repeat (first | refine bset ?_ (by simp; omega) _ | refine bset ?_ (by simp) _ | refine balloc ?_ _ | assumption)); done) | ((repeat (first | refine bset ?_ (by simp; omega) _ | refine bset ?_ (by simp) _ | refine balloc ?_ _ | assumption)); exact bdrewN (by assumption) _)))
          · have HS2 : Hid (scanI (riseAt R) (ii + 1) = 0) := HSk.out (by omega)
            clear HB7 HSk
            go_wp2
            go_quiet (fail)
            go_wp2
            exact ⟨⟨ii + 1, by omega, .inl (by have := HII.out; omega), by go_num, HS2, by first | exact hbl | exact bdrewN hbl _⟩, by simp [intOf]; have := HII.out; omega⟩
        · have HS3 : scanI (riseAt R) k = 0 := by
            rcases (show j = k ∨ k = 0 by omega) with h | h
            · rw [← h]; exact HS.out
            · rw [h]; rfl
          have hbf : balF R n b own = 0 := HBo2.out HS3
          have HBk : Hid (BalOk R n b own) := balOk_of hbf
          have hD2 : Hid (((prN l R c s b k).did.length : Int) < quoV n → Z = ⟨4, 0, (prN l R c s b k).accs⟩) := fun h => hD2'.out hbf h
          have hD3 : Hid (quoV n ≤ ((prN l R c s b k).did.length : Int) → Z = ⟨0, (best own (prN l R c s b k).old (prN l R c s b k).old.length).val, acN (prN l R c s b k).accs (prN l R c s b k).did c s b (best own (prN l R c s b k).old (prN l R c s b k).old.length).val (prN l R c s b k).did.length⟩) := fun h => hD3'.out hbf h
          clear hbf hD2' hD3' HBr2 HBo2 HS HS3 hjk hj1
          replace r0 := cell_keep hbl r0
          replace r1 := cell_keep hbl r1
          replace r2 := cell_keep hbl r2
          replace rf : ∀ o, wr.frozen? ⟨w.heap.size, o, none⟩ = false := fun o => by rw [(bcell hbl).2 _ _ (by omega)]; exact rf o
          have zr3 : w.heap.size < wr.heap.size := World.block_lt_of_cell? wr _ r0
          have hlt' : ¬ (j : Int) < k := by omega
          obtain ⟨m, hm⟩ : ∃ m, m = k := ⟨_, rfl⟩
          rw [← hm] at HMr HRi hrc hD2 hD3 HPin hlt' ⊢
          clear hm hlt hbl hBr
          go_wp2_with fail
          refine (HCp.out _ hBq HLk.out).mono ?_
          rintro e w3 ⟨v3, F3, rfl, o3, hb3⟩
          obtain ⟨a3, c3, rfl⟩ := accs_form (accsR.ofO o3)
          have hB3 : Below w.heap.size w w3 := bstep hBq hb3
          have hz3 := hb3.size
          have HO3 : Hid (accsR.O w3 wr.heap.size F3 (.slice a3 n c3) l) := by show accsR.O _ _ _ _ _; rw [← HN.out]; exact o3
          replace r0 := cell_keep hb3 r0
          replace r1 := cell_keep hb3 r1
          replace r2 := cell_keep hb3 r2
          replace rf : ∀ o, w3.frozen? ⟨w.heap.size, o, none⟩ = false := fun o => by rw [(bcell hb3).2 _ _ (by omega)]; exact rf o
          have HF3 : Hid (∀ b', F3 b' → wr.heap.size ≤ b' ∧ b' < w3.heap.size) := fun b' h => accsR.rng HO3.out b' h
          obtain ⟨g, cap, _, _, hsl, hnc, hcm, hFg, _, _, _⟩ := accs_read HO3.out (show 0 < l.length by rw [HN.out]; omega)
          rw [HN.out] at hsl hnc
          simp only [Value.slice.injEq, true_and] at hsl
          obtain ⟨rfl, rfl⟩ := hsl
          unfold maxLen at hcm
          have hgb := HF3.out g hFg
          rw [HN.out]
          clear HCp o3 hb3
          obtain ⟨V0, hV0⟩ : ∃ V0, V0 = wr.heap.size := ⟨_, rfl⟩
          rw [← hV0] at HO3 HF3 zr3 hgb hz3
          clear hV0
          go_wp2
          obtain ⟨w4, hw4⟩ : ∃ w4, w4 = ((w3.alloc (.cells #[.int .i64 0, .int .i64 0, .slice (some ⟨g, 0, none⟩) n c3] 27)).alloc (.cells #[] 2)).alloc (.cells #[] 65) := ⟨_, rfl⟩
          have hb34 : Below w3.heap.size w3 w4 := by rw [hw4]; (repeat (first | exact Below.refl _ _ | assumption | refine Below.drew ?_ | refine balloc ?_ _ | refine bset ?_ (by simp; omega) _ | refine bset ?_ (by simp) _ | refine bstep ?_ (by assumption)))
          have s4 : w4.heap.size = w3.heap.size + 3 := by rw [hw4]; simp
          have p0 : w4.cell? ⟨w3.heap.size, 0, none⟩ = some (.int .i64 0) := by rw [hw4]; simp [go_sem]
          have p1 : w4.cell? ⟨w3.heap.size, 1, none⟩ = some (.int .i64 0) := by rw [hw4]; simp [go_sem]
          have p2 : w4.cell? ⟨w3.heap.size, 2, none⟩ = some (.slice (some ⟨g, 0, none⟩) n c3) := by rw [hw4]; simp [go_sem]
          have pf : ∀ o, w4.frozen? ⟨w3.heap.size, o, none⟩ = false := fun o => by rw [hw4]; simp [go_sem]
          have od0 : w4.ownsRow (w3.heap.size + 1) 2 1 (.slice (some ⟨w3.heap.size + 1, 0, none⟩) 0 0) 0 (intsC (prN l R c s b 0).did) := by
            rw [hw4]
            have h := World.ownsRow_lit (base := w3.heap.size + 1) (e := 2) (size := 1) (w3.alloc (.cells #[.int .i64 0, .int .i64 0, .slice (some ⟨g, 0, none⟩) n c3] 27)) #[] 0 (by simp) (by decide) rfl
            simp only [World.size_alloc] at h
            exact owns_below h (balloc (Below.refl _ _) _)
          have ov0 : w4.ownsRow (w3.heap.size + 1) 65 2 (.slice (some ⟨w3.heap.size + 2, 0, none⟩) 0 0) 0 (votsC (prN l R c s b 0).old) := by
            rw [hw4]
            have h := World.ownsRow_lit (base := w3.heap.size + 1) (e := 65) (size := 2) ((w3.alloc (.cells #[.int .i64 0, .int .i64 0, .slice (some ⟨g, 0, none⟩) n c3] 27)).alloc (.cells #[] 2)) #[] 0 (by simp) (by decide) rfl
            simp only [World.size_alloc] at h
            exact h
          rw [← hw4]
          clear hw4
          have hB4 : Below w.heap.size w w4 := bstep hB3 hb34
          have HO4 : Hid (accsR.O w4 V0 F3 (.slice (some ⟨g, 0, none⟩) n c3) (prN l R c s b 0).accs) := accsR.keep HO3.out hb34
          replace r0 := cell_keep hb34 r0
          replace r1 := cell_keep hb34 r1
          replace r2 := cell_keep hb34 r2
          replace rf : ∀ o, w4.frozen? ⟨w.heap.size, o, none⟩ = false := fun o => by rw [(bcell hb34).2 _ _ (by omega)]; exact rf o
          obtain ⟨B, hBB⟩ : ∃ B, B = w3.heap.size := ⟨_, rfl⟩
          rw [← hBB] at s4 p0 p1 p2 pf od0 ov0 HF3 hgb hz3 ⊢
          clear hBB hb34 HO3 hB3 hBq
          have HOd : Hid (w4.ownsRow (B + 1) 2 1 (.slice (some ⟨B + 1, 0, none⟩) 0 0) 0 (intsC (prN l R c s b 0).did)) := od0
          have HOv : Hid (w4.ownsRow (B + 1) 65 2 (.slice (some ⟨B + 2, 0, none⟩) 0 0) 0 (votsC (prN l R c s b 0).old)) := ov0
          have HS4 : Hid (w4.heap.size = B + 3) := s4
          clear od0 ov0 s4
          obtain ⟨i0, hi0, hz0, hzz1, hzz2⟩ := info_parts infoInt
          have HI0 : Hid (Tryz.prog.info? 2 = some i0 ∧ i0.zero = some (.int .i64 0) ∧ i0.size = 1 ∧ i0.bytes = 8) := ⟨hi0, hz0, hzz1, hzz2⟩
          clear hi0 hz0 hzz1 hzz2
          obtain ⟨j0, hj0, hy0, hy1, hy2⟩ := info_parts infoVot
          have HJ0 : Hid (Tryz.prog.info? 65 = some j0 ∧ j0.zero = some (.agg #[.int .i64 0, .int .i64 0]) ∧ j0.size = 2 ∧ j0.bytes = 16) := ⟨hj0, hy0, hy1, hy2⟩
          clear hj0 hy0 hy1 hy2
          go_loopw [17, 18, 19] (fun vd vo i w' => ∃ (k : Nat) (F' : Nat → Prop) (pd po : Option Addr) (qd qo dn : Nat), k ≤ m ∧ i = .int .i64 k ∧ vd = .slice pd dn qd ∧ vo = .slice po dn qo ∧ Hid ((prN l R c s b k).did.length = dn) ∧ Hid (accsR.O w' V0 F' (.slice (some ⟨g, 0, none⟩) n c3) (prN l R c s b k).accs) ∧ Hid (∀ bb, F' bb → F3 bb ∨ w4.heap.size ≤ bb) ∧ Hid (w'.ownsRow (B + 1) 2 1 (.slice pd dn qd) dn (intsC (prN l R c s b k).did)) ∧ Hid (w'.ownsRow (B + 1) 65 2 (.slice po dn qo) dn (votsC (prN l R c s b k).old)) ∧ Hid (∀ bb, (Value.slice pd dn qd).ownBlock = some bb → ¬ F' bb) ∧ Hid (∀ bb, (Value.slice po dn qo).ownBlock = some bb → ¬ F' bb) ∧ Hid (∀ bb, (Value.slice pd dn qd).ownBlock = some bb → ¬ (Value.slice po dn qo).ownBlock = some bb) ∧ Mod (fun bb => F3 bb ∨ B + 1 ≤ bb) w4 w') (fun vd vo i _ => m - (intOf i).toNat)
          case atStart =>
            refine ⟨0, F3, _, _, 0, 0, 0, Nat.zero_le _, rfl, rfl, rfl, rfl, HO4, fun bb h => .inl h, HOd, HOv, fun bb h h2 => ?_, fun bb h h2 => ?_, fun bb h h2 => ?_, Mod.refl _ _⟩
            · simp only [Value.ownBlock, Option.some.injEq] at h; have := HF3.out bb h2; omega
            · simp only [Value.ownBlock, Option.some.injEq] at h; have := HF3.out bb h2; omega
            · simp only [Value.ownBlock, Option.some.injEq] at h h2; omega
          case round =>
            clear HO4 HOd HOv
            obtain ⟨k, F', pd, po, qd, qo, dn, hk, rfl, rfl, rfl, HDn, HO, HF', HD, HV, HDF, HVF, HDV, hmod⟩ := hrel
            have hzr := hmod.size
            have hz4 := HS4.out
            have hBr : Below w.heap.size w wr := hmod.below hB4 hB4.size (fun bb hb => hb.elim (fun hb => by have := HF3.out bb hb; omega) (fun hb => by omega))
            have hneB : ¬ (F3 B ∨ B + 1 ≤ B) := fun h => h.elim (fun h => by have := HF3.out _ h; omega) (fun h => by omega)
            have hneW : ¬ (F3 w.heap.size ∨ B + 1 ≤ w.heap.size) := fun h => h.elim (fun h => by have := HF3.out _ h; omega) (fun h => by omega)
            replace p0 := hmod.cell p0 hneB
            replace p1 := hmod.cell p1 hneB
            replace p2 := hmod.cell p2 hneB
            replace pf : ∀ o, wr.frozen? ⟨B, o, none⟩ = false := fun o => (World.frozen?_of_block (hmod.block B (by omega) hneB)).trans (pf o)
            by_cases hlt : k < m
            · obtain ⟨bb, o, rfl, hc⟩ := HRi.out k hlt
              have hbw : bb < w.heap.size := World.block_lt_of_cell? w _ hc
              have hin := HBk.out.inn k (by rw [HMr.out]; exact hlt)
              obtain ⟨i, hi⟩ : ∃ i : Nat, R.getD k 0 = (i : Int) := ⟨(R.getD k 0).toNat, by omega⟩
              have HS : Hid (prN l R c s b (k + 1) = prS c s b (prN l R c s b k) (i : Int)) := by show _ = _; rw [← hi]; rfl
              rw [hi] at hc hin
              have hin2 : i < n := by omega
              have hlen := HLen.out k
              have hdn := HDid.out k
              obtain ⟨st, hst⟩ : ∃ st, st = prN l R c s b k := ⟨_, rfl⟩
              rw [← hst] at HS hlen HO HD HV HDn hdn
              clear hst
              obtain ⟨g', cap', p, q, hsl, _, _, hFg', gf, hcell, hVa⟩ := accs_read HO.out (show i < st.accs.length by omega)
              rw [hlen] at hsl
              simp only [Value.slice.injEq, Option.some.injEq, Addr.mk.injEq, and_true, true_and] at hsl
              obtain ⟨rfl, rfl⟩ := hsl
              obtain ⟨r, hr⟩ : ∃ r, r = promAtD (st.accs.getD i default).slots c s b := ⟨_, rfl⟩
              have HP : Hid (∀ W, Below wr.heap.size wr W → Calls Tryz.prog 29 #[.agg #[.slice p (st.accs.getD i default).slots.length q], .int .i64 c, .int .i64 s, .int .i64 b] W (AskE r W)) := fun W hW => by rw [hr]; exact specPromAt_u _ _ c s b W (accR.below hVa hW)
              have HS2 : Hid (prN l R c s b (k + 1) = if r.code = 0 then ⟨st.accs.set i r.acc, st.did ++ [(i : Int)], st.old ++ [⟨r.ob, r.ov⟩]⟩ else st) := by
                show _ = _
                rw [HS.out, hr]
                rfl
              clear hr hVa HS hi
              replace hc := cell_keep hBr hc
              have hgz : g < wr.heap.size := by omega
              have hbz : bb < wr.heap.size := World.block_lt_of_cell? wr _ hc
              have hBz : B < wr.heap.size := by omega
              generalize (st.accs.getD i default).slots.length = mm at *
              have i1 : (i : Int) < n := by omega
              have i2 : (0 : Int) ≤ i := by omega
              go_wp2_with fail
              go_cut [20] from 86 to 97 (fun p wx => ∃ (B : Nat) (av : Option Addr) (cv : Nat) (F2 : Nat → Prop), p = .pointer (some ⟨B, 0, none⟩) ∧ wx.cell? ⟨B, 0, none⟩ = some (.int .i64 r.code) ∧ wx.cell? ⟨B, 1, none⟩ = some (.int .i64 r.ob) ∧ wx.cell? ⟨B, 2, none⟩ = some (.int .i64 r.ov) ∧ wx.cell? ⟨B, 3, none⟩ = some (.slice av r.acc.slots.length cv) ∧ wr.heap.size ≤ B ∧ B < wx.heap.size ∧ Hid (accR.O wx wr.heap.size F2 (.agg #[.slice av r.acc.slots.length cv]) r.acc) ∧ Hid (∀ b', F2 b' → ¬ b' = B) ∧ Below wr.heap.size wr wx)
              case first =>
                go_region_held3 (fun W => Below wr.heap.size wr W ∧ W.cell? ⟨B, 2, none⟩ = some (.slice (some ⟨g, 0, none⟩) n c3) ∧ W.cell? ⟨bb, o + k, none⟩ = some (.int .i64 i) ∧ W.cell? ⟨g, i, none⟩ = some (.slice p mm q))
                  ((refine keepN3 ?_ p2 hc hcell; (repeat (first | exact Below.refl _ _ | assumption | refine Below.drew ?_ | refine balloc ?_ _ | refine bset ?_ (by simp; omega) _ | refine bset ?_ (by simp) _ | refine bstep ?_ (by assumption)))))
                  (first | (go_at_call 29; refine (HP.out _ (by (repeat (first | exact Below.refl _ _ | assumption | refine Below.drew ?_ | refine balloc ?_ _ | refine bset ?_ (by simp; omega) _ | refine bset ?_ (by simp) _ | refine bstep ?_ (by assumption))))).mono ?_; rintro e w2 ⟨v2, F2, rfl, o2, hb2⟩; have o3 := accR_cells o2; obtain ⟨av, cv, rfl, o3⟩ := o3; have hz2 := hb2.size; (first | (have kk := boxNew4 (B := wr.heap.size) hb2 rfl; obtain ⟨k0, k1, k2, k3, kf, kl⟩ := kk) | (have kk := boxNew4 (B := wr.heap.size) (bstep (Below.drew (Below.refl _ _)) hb2) rfl; obtain ⟨k0, k1, k2, k3, kf, kl⟩ := kk) | skip)))
                all_goals
                  rename_i hH
                  have hHB := hH.1
                  clear hH
                  go_wp2_with fail
                  go_meet
                  case rel =>
                    first
                      | (refine ⟨wr.heap.size, av, cv, F2, rfl, ?_, ?_, ?_, ?_, Nat.le_refl _, ?_, ?_, ?_, hHB⟩
                         · simp [go_sem, k0, k1, k2, k3, kf]
                         · simp [go_sem, k0, k1, k2, k3, kf]
                         · simp [go_sem, k0, k1, k2, k3, kf]
                         · simp [go_sem, k0, k1, k2, k3, kf]
                         · simp; omega
                         · exact accR.base (Rep.setN _ (Rep.setN _ (Rep.setN _ (Rep.setN _ o3 _ (fun hb => by have := (accR.rng o3 _ hb).1; simp at this; omega)) _ (fun hb => by have := (accR.rng o3 _ hb).1; simp at this; omega)) _ (fun hb => by have := (accR.rng o3 _ hb).1; simp at this; omega)) _ (fun hb => by have := (accR.rng o3 _ hb).1; simp at this; omega)) (by simp)
                         · exact fun b' hb e => by have := (accR.rng o3 b' hb).1; simp at this; omega)
                      | (refine ⟨w2.heap.size, av, cv, F2, rfl, ?_, ?_, ?_, ?_, ?_, ?_, ?_, ?_, hHB⟩
                         · simp [go_sem]
                         · simp [go_sem]
                         · simp [go_sem]
                         · simp [go_sem]
                         · simp at hz2; omega
                         · simp
                         · exact accR.base (accR.alloc o3 _) (by simp)
                         · exact fun b' hb e => by have := (accR.rng o3 b' hb).2; omega)
              case rest =>
                obtain ⟨BT, av, cv, F2, rfl, q0, q1, q2, q3, loT, hiT, HA, HAB, hbx⟩ := hcut
                generalize hwc : wc = wT at *
                clear hwc
                have hzT := hbx.size
                have hBT : Below w.heap.size w wT := bstep hBr hbx
                have hcT := cell_keep hbx hc
                have hcellT := cell_keep hbx hcell
                have gfT : ∀ o, wT.frozen? ⟨g, o, none⟩ = false := fun o => by rw [(bcell hbx).2 _ _ hgz]; exact gf o
                have HOT : Hid (accsR.O wT V0 F' (.slice (some ⟨g, 0, none⟩) n c3) st.accs) := accsR.keep HO.out hbx
                have HAT : Hid (accR.O wT V0 F2 (.agg #[.slice av r.acc.slots.length cv]) r.acc) := accR.base HA.out (by omega)
                have HFl : Hid (∀ bb, F' bb → bb < wr.heap.size) := fun bb h => (accsR.rng HO.out bb h).2
                have HF2 : Hid (∀ bb, F2 bb → wr.heap.size ≤ bb ∧ bb < wT.heap.size) := fun bb h => accR.rng HA.out bb h
                have HDT : Hid (wT.ownsRow (B + 1) 2 1 (.slice pd dn qd) dn (intsC st.did)) := owns_below HD.out hbx
                have HVT : Hid (wT.ownsRow (B + 1) 65 2 (.slice po dn qo) dn (votsC st.old)) := owns_below HV.out hbx
                have HDl : Hid (∀ bb, (Value.slice pd dn qd).ownBlock = some bb → B + 1 ≤ bb ∧ bb < wr.heap.size) := fun bb h => HD.out.lt bb h
                have HVl : Hid (∀ bb, (Value.slice po dn qo).ownBlock = some bb → B + 1 ≤ bb ∧ bb < wr.heap.size) := fun bb h => HV.out.lt bb h
                have hmodT : Mod (fun bb => F3 bb ∨ B + 1 ≤ bb) w4 wT := hmod.trans (Mod.of_below hbx)
                replace p0 := cell_keep hbx p0
                replace p1 := cell_keep hbx p1
                replace p2 := cell_keep hbx p2
                replace pf : ∀ o, wT.frozen? ⟨B, o, none⟩ = false := fun o => by rw [(bcell hbx).2 _ _ (by omega)]; exact pf o
                clear hbx HP HO HD HV hc hcell gf hmod HA hBr
                by_cases hcode : r.code = 0
                · have HS3 : Hid (prN l R c s b (k + 1) = ⟨st.accs.set i r.acc, st.did ++ [(i : Int)], st.old ++ [⟨r.ob, r.ov⟩]⟩) := by show _ = _; rw [HS2.out, if_pos hcode]
                  rw [hcode] at q0
                  clear hcode HS2
                  have hgzT : g < wT.heap.size := by omega
                  have hbzT : bb < wT.heap.size := by omega
                  have k1 : (k : Int) < m := by omega
                  have k2 : (0 : Int) ≤ k := by omega
                  have hdlen : dn ≤ 1000 := by have h1 := HDn.out; have h2 := HBk.out.len; rw [HMr.out] at h2; omega
                  have hstore := accs_store (w := wT) (i := i) (by rw [hlen]; exact HOT.out) (by omega) HAT.out (fun b' h1 h2 => by have := HFl.out b' h1; have := (HF2.out b' h2).1; omega)
                  rw [hlen] at hstore
                  have HST : Hid (∃ F', accsR.O (wT.setCell ⟨g, i, none⟩ (.slice av r.acc.slots.length cv)) V0 F' (.slice (some ⟨g, 0, none⟩) n c3) (st.accs.set i r.acc) ∧ Mod (fun b => b = g) wT (wT.setCell ⟨g, i, none⟩ (.slice av r.acc.slots.length cv)) ∧ ∀ b, F' b → _ ∨ F2 b) := hstore
                  clear hstore
                  go_wp2
                  refine wp_region_noPanic ?_
                  refine region_upto (fun W => Below wT.heap.size wT W ∧ W.cell? ⟨B, 2, none⟩ = some (.slice (some ⟨g, 0, none⟩) n c3) ∧ W.cell? ⟨bb, o + k, none⟩ = some (.int .i64 i) ∧ W.cell? ⟨BT, 3, none⟩ = some (.slice av r.acc.slots.length cv)) 9 (by kernel_rfl) ⟨by (repeat (first | exact Below.refl _ _ | assumption | refine Below.drew ?_ | refine balloc ?_ _ | refine bset ?_ (by simp; omega) _ | refine bset ?_ (by simp) _ | refine bstep ?_ (by assumption))), cell_keep (by (repeat (first | exact Below.refl _ _ | assumption | refine Below.drew ?_ | refine balloc ?_ _ | refine bset ?_ (by simp; omega) _ | refine bset ?_ (by simp) _ | refine bstep ?_ (by assumption)))) p2, cell_keep (by (repeat (first | exact Below.refl _ _ | assumption | refine Below.drew ?_ | refine balloc ?_ _ | refine bset ?_ (by simp; omega) _ | refine bset ?_ (by simp) _ | refine bstep ?_ (by assumption)))) hcT, cell_keep (by (repeat (first | exact Below.refl _ _ | assumption | refine Below.drew ?_ | refine balloc ?_ _ | refine bset ?_ (by simp; omega) _ | refine bset ?_ (by simp) _ | refine bstep ?_ (by assumption)))) q3⟩ (fun hS => ?_)
                  refine upto_take (i := 0) (v := ?_) rfl (by kernel_rfl) (by kernel_rfl) (by kernel_rfl) (by kernel_rfl) (fun _ _ _ h => h) (by rfl) hS ?_ ?_
                  rotate_left
                  · intro wS hSw
                    try dsimp only at hSw
                    first | (go_simp; done) | (go_simp; with_reducible rfl)
                  try simp only [Act.put, List.getElem_toArray, List.getElem_cons_zero, List.getElem_cons_succ, List.setIfInBounds_toArray, List.set_cons_zero, List.set_cons_succ]
                  refine upto_take (i := 1) (v := ?_) rfl (by kernel_rfl) (by kernel_rfl) (by kernel_rfl) (by kernel_rfl) (fun _ _ _ h => h) (by rfl) hS ?_ ?_
                  rotate_left
                  · intro wS hSw
                    try dsimp only at hSw
                    first | (go_simp; done) | (go_simp; with_reducible rfl)
                  try simp only [Act.put, List.getElem_toArray, List.getElem_cons_zero, List.getElem_cons_succ, List.setIfInBounds_toArray, List.set_cons_zero, List.set_cons_succ]
                  refine upto_take (i := 2) (v := ?_) rfl (by kernel_rfl) (by kernel_rfl) (by kernel_rfl) (by kernel_rfl) (fun _ _ _ h => h) (by rfl) hS ?_ ?_
                  rotate_left
                  · intro wS hSw
                    try dsimp only at hSw
                    first | (go_simp; done) | (go_simp; with_reducible rfl)
                  try simp only [Act.put, List.getElem_toArray, List.getElem_cons_zero, List.getElem_cons_succ, List.setIfInBounds_toArray, List.set_cons_zero, List.set_cons_succ]
                  refine upto_take (i := 3) (v := ?_) rfl (by kernel_rfl) (by kernel_rfl) (by kernel_rfl) (by kernel_rfl) (fun _ _ _ h => h) (by rfl) hS ?_ ?_
                  rotate_left
                  · intro wS hSw
                    try dsimp only at hSw
                    first | (go_simp; done) | (go_simp; with_reducible rfl)
                  try simp only [Act.put, List.getElem_toArray, List.getElem_cons_zero, List.getElem_cons_succ, List.setIfInBounds_toArray, List.set_cons_zero, List.set_cons_succ]
                  refine upto_take (i := 4) (v := ?_) rfl (by kernel_rfl) (by kernel_rfl) (by kernel_rfl) (by kernel_rfl) (fun _ _ _ h => h) (by rfl) hS ?_ ?_
                  rotate_left
                  · intro wS hSw
                    try dsimp only at hSw
                    first | (go_simp; done) | (go_simp; with_reducible rfl)
                  try simp only [Act.put, List.getElem_toArray, List.getElem_cons_zero, List.getElem_cons_succ, List.setIfInBounds_toArray, List.set_cons_zero, List.set_cons_succ]
                  refine upto_take (i := 5) (v := ?_) rfl (by kernel_rfl) (by kernel_rfl) (by kernel_rfl) (by kernel_rfl) (fun _ _ _ h => h) (by rfl) hS ?_ ?_
                  rotate_left
                  · intro wS hSw
                    try dsimp only at hSw
                    first | (go_simp; done) | (go_simp; with_reducible rfl)
                  try simp only [Act.put, List.getElem_toArray, List.getElem_cons_zero, List.getElem_cons_succ, List.setIfInBounds_toArray, List.set_cons_zero, List.set_cons_succ]
                  refine upto_take (i := 6) (v := ?_) rfl (by kernel_rfl) (by kernel_rfl) (by kernel_rfl) (by kernel_rfl) (fun _ _ _ h => h) (by rfl) hS ?_ ?_
                  rotate_left
                  · intro wS hSw
                    try dsimp only at hSw
                    first | (go_simp; done) | (go_simp; with_reducible rfl)
                  try simp only [Act.put, List.getElem_toArray, List.getElem_cons_zero, List.getElem_cons_succ, List.setIfInBounds_toArray, List.set_cons_zero, List.set_cons_succ]
                  refine upto_take (i := 7) (v := ?_) rfl (by kernel_rfl) (by kernel_rfl) (by kernel_rfl) (by kernel_rfl) (fun _ _ _ h => h) (by rfl) hS ?_ ?_
                  rotate_left
                  · intro wS hSw
                    try dsimp only at hSw
                    first | (go_simp; done) | (go_simp; with_reducible rfl)
                  try simp only [Act.put, List.getElem_toArray, List.getElem_cons_zero, List.getElem_cons_succ, List.setIfInBounds_toArray, List.set_cons_zero, List.set_cons_succ]
                  refine upto_take (i := 8) (v := ?_) rfl (by kernel_rfl) (by kernel_rfl) (by kernel_rfl) (by kernel_rfl) (fun _ _ _ h => h) (by rfl) hS ?_ ?_
                  rotate_left
                  · intro wS hSw
                    try dsimp only at hSw
                    first | (go_simp; done) | (go_simp; with_reducible rfl)
                  try simp only [Act.put, List.getElem_toArray, List.getElem_cons_zero, List.getElem_cons_succ, List.setIfInBounds_toArray, List.set_cons_zero, List.set_cons_succ]
                  refine upto_step (i := 9) (by kernel_rfl) rfl ?_
                  intro K hK
                  go_simp
                  refine hK _ _ (fun h => absurd rfl h) ?_
                  clear hK K
                  refine upto_done (by kernel_rfl) ?_
                  refine NoPanic.normal ?_
                  obtain ⟨F9, o9, hm9, hF9⟩ := HST.out
                  have hb9 : Below (wT.setCell ⟨g, i, none⟩ (.slice av r.acc.slots.length cv)).heap.size (wT.setCell ⟨g, i, none⟩ (.slice av r.acc.slots.length cv)) (wT.setCell ⟨g, i, none⟩ (.slice av r.acc.slots.length cv)).drew := Below.drew (Below.refl _ _)
                  have HM9 : Hid (Mod (fun b => b = g) wT (wT.setCell ⟨g, i, none⟩ (.slice av r.acc.slots.length cv)).drew) := hm9.trans (Mod.of_below hb9)
                  have HO9 : Hid (accsR.O (wT.setCell ⟨g, i, none⟩ (.slice av r.acc.slots.length cv)).drew V0 F9 (.slice (some ⟨g, 0, none⟩) n c3) (st.accs.set i r.acc)) := accsR.keep o9 hb9
                  have hs9 : (wT.setCell ⟨g, i, none⟩ (.slice av r.acc.slots.length cv)).drew.heap.size = wT.heap.size := by simp
                  have HF9 : Hid (∀ b', F9 b' → F' b' ∨ F2 b') := hF9
                  clear o9 hm9 hF9 hb9 HST HOT HAT hS
                  generalize (wT.setCell ⟨g, i, none⟩ (.slice av r.acc.slots.length cv)).drew = W5 at *
                  have HS9 : Hid (W5.heap.size = wT.heap.size) := hs9
                  clear hs9
                  have c5 := HM9.out.cell hcT (by dsimp only; omega)
                  have t1 := HM9.out.cell q1 (by dsimp only; omega)
                  have t2 := HM9.out.cell q2 (by dsimp only; omega)
                  have HD5 : Hid (W5.ownsRow (B + 1) 2 1 (.slice pd dn qd) dn (intsC st.did)) := HM9.out.owns HDT.out (fun b' h1 h2 => by have := HDl.out b' h1; omega)
                  have HV5 : Hid (W5.ownsRow (B + 1) 65 2 (.slice po dn qo) dn (votsC st.old)) := HM9.out.owns HVT.out (fun b' h1 h2 => by have := HVl.out b' h1; omega)
                  have HM5 : Hid (Mod (fun bb => F3 bb ∨ B + 1 ≤ bb) w4 W5) := hmodT.trans (HM9.out.mono (fun b' h => .inl (by rw [h]; exact hFg)))
                  have hz5 := HM9.out.size
                  have hbz5 : bb < W5.heap.size := by omega
                  have hBz5 : BT < W5.heap.size := by omega
                  have hBB5 : B < W5.heap.size := by omega
                  clear hmodT HDT HVT hcT hcellT gfT q0 q1 q2 q3 HM9 p0 p1 p2 pf
                  go_wp2_with (at_builtin; refine wpList_append_own_at _ rfl _ _ 23 rfl (B + 1) 2 i0 _ 1 8 Tryz.underlying23 HI0.out.1 HI0.out.2.1 HI0.out.2.2.1 HI0.out.2.2.2 rfl (by decide) _ dn (intsC st.did) rfl (owns_below HD5.out (balloc (Below.refl _ _) _)) ⟨W5.heap.size, 0, none⟩ 1 1 [.int .i64 i] rfl rfl ?c1 ?c2 ?c3 ?c4 ?c5 ?_)
                  case c1 =>
                    intro j u hj
                    match j, hj with
                    | 0, hj => simp at hj; subst hj; simp [Addr.add, go_sem]
                    | j + 1, hj => simp at hj
                  case c2 =>
                    intro u hu
                    rw [List.mem_singleton] at hu
                    rw [hu]
                    rfl
                  case c3 => unfold maxLen; omega
                  case c4 => omega
                  case c5 => simp; omega
                  intro vd6 w6 od6 gd6 _ ld6
                  have hgs6 := gd6.size
                  simp at hgs6
                  have hk6 : ∀ b', b' < W5.heap.size → ¬ (Value.slice pd dn qd).ownBlock = some b' → ∀ o v, W5.cell? ⟨b', o, none⟩ = some v → w6.cell? ⟨b', o, none⟩ = some v := fun b' h1 h2 o v hv => (Mod.of_grown gd6).cell (cell_keep (balloc (Below.refl _ _) _) hv) h2
                  have t1' := hk6 BT hBz5 (fun e => by have := HDl.out _ e; omega) _ _ t1
                  have t2' := hk6 BT hBz5 (fun e => by have := HDl.out _ e; omega) _ _ t2
                  have HO6 : Hid (accsR.O w6 V0 F9 (.slice (some ⟨g, 0, none⟩) n c3) (st.accs.set i r.acc)) := accsR.mod (accsR.alloc HO9.out _) (Mod.of_grown gd6) (fun b' h1 h2 => by
                    rcases HF9.out b' h1 with h | h
                    · exact HDF.out b' h2 h
                    · have := HDl.out b' h2; have := (HF2.out b' h).1; omega)
                  have HV6 : Hid (w6.ownsRow (B + 1) 65 2 (.slice po dn qo) dn (votsC st.old)) := (Mod.of_grown gd6).owns (owns_below HV5.out (balloc (Below.refl _ _) _)) (fun b' h1 h2 => HDV.out b' h2 h1)
                  have HM6 : Hid (Mod (fun bb => F3 bb ∨ B + 1 ≤ bb) w4 w6) := (HM5.out.alloc _).trans ((Mod.of_grown gd6).mono (fun b' h => .inr (HDl.out b' h).1))
                  obtain ⟨ad6, cd6, rfl⟩ := owns_form od6
                  have HD6 : Hid (w6.ownsRow (B + 1) 2 1 (.slice ad6 (dn + 1) cd6) (dn + 1) (intsC st.did ++ [.int .i64 i])) := od6
                  have HL6 : Hid (∀ b', (Value.slice ad6 (dn + 1) cd6).ownBlock = some b' → (Value.slice pd dn qd).ownBlock = some b' ∨ (wT.heap.size ≤ b' ∧ b' < w6.heap.size)) := fun b' h => by
                    have h9 := HS9.out
                    rcases ld6 with h1 | h1
                    · exact .inl (h1 ▸ h)
                    · have h2 := (HD6.out.lt b' h).2
                      rw [h1] at h
                      simp at h
                      exact .inr ⟨by omega, h2⟩
                  have hz6 : W5.heap.size ≤ w6.heap.size := by omega
                  have hBz6 : BT < w6.heap.size := by omega
                  clear od6 gd6 ld6 hk6 HO9 HV5 HD5 HM5 t1 t2 c5
                  go_wp2_with (at_builtin; refine wpList_append_own_at _ rfl _ _ 63 rfl (B + 1) 65 j0 _ 2 16 Tryz.underlying63 HJ0.out.1 HJ0.out.2.1 HJ0.out.2.2.1 HJ0.out.2.2.2 rfl (by decide) _ dn (votsC st.old) rfl (owns_below HV6.out (balloc (Below.refl _ _) _)) ⟨w6.heap.size, 0, none⟩ 1 1 [.int .i64 r.ob, .int .i64 r.ov] rfl rfl ?c1 ?c2 ?c3 ?c4 ?c5 ?_)
                  case c1 =>
                    intro j u hj
                    match j, hj with
                    | 0, hj => simp at hj; subst hj; simp [Addr.add, go_sem]
                    | 1, hj => simp at hj; subst hj; simp [Addr.add, go_sem]
                    | j + 2, hj => simp at hj
                  case c2 =>
                    intro u hu
                    simp only [List.mem_cons, List.not_mem_nil, or_false] at hu
                    rcases hu with rfl | rfl <;> rfl
                  case c3 => unfold maxLen; omega
                  case c4 => omega
                  case c5 => simp; omega
                  intro vo7 w7 ov7 gv7 _ lv7
                  obtain ⟨ao7, co7, rfl⟩ := owns_form ov7
                  have hgs7 := gv7.size
                  simp at hgs7
                  have HLv : Hid (∀ b', (Value.slice ao7 (dn + 1) co7).ownBlock = some b' → (Value.slice po dn qo).ownBlock = some b' ∨ w6.heap.size + 1 ≤ b') := fun b' h => by
                    rcases lv7 with h1 | h1
                    · exact .inl (h1 ▸ h)
                    · rw [h1] at h
                      simp at h
                      exact .inr (by omega)
                  have HO7 : Hid (accsR.O w7 V0 F9 (.slice (some ⟨g, 0, none⟩) n c3) (prN l R c s b (k + 1)).accs) := by
                    show accsR.O _ _ _ _ _
                    rw [HS3.out]
                    exact accsR.mod (accsR.alloc HO6.out _) (Mod.of_grown gv7) (fun b' h1 h2 => by
                      rcases HF9.out b' h1 with h | h
                      · exact HVF.out b' h2 h
                      · have := HVl.out b' h2; have := (HF2.out b' h).1; omega)
                  have HD7 : Hid (w7.ownsRow (B + 1) 2 1 (.slice ad6 (dn + 1) cd6) (dn + 1) (intsC (prN l R c s b (k + 1)).did)) := by
                    show World.ownsRow _ _ _ _ _ _ _
                    rw [HS3.out]
                    have e : intsC (st.did ++ [(i : Int)]) = intsC st.did ++ [.int .i64 i] := by simp [intsC]
                    rw [e]
                    exact (Mod.of_grown gv7).owns (owns_below HD6.out (balloc (Below.refl _ _) _)) (fun b' h1 h2 => by
                      rcases HL6.out b' h1 with h | h
                      · exact HDV.out b' h h2
                      · have := HVl.out b' h2; omega)
                  have HV7 : Hid (w7.ownsRow (B + 1) 65 2 (.slice ao7 (dn + 1) co7) (dn + 1) (votsC (prN l R c s b (k + 1)).old)) := by
                    show World.ownsRow _ _ _ _ _ _ _
                    rw [HS3.out]
                    have e : votsC (st.old ++ [⟨r.ob, r.ov⟩]) = votsC st.old ++ [.int .i64 r.ob, .int .i64 r.ov] := by simp [votsC, votC]
                    rw [e]
                    exact ov7
                  have HDn7 : Hid ((prN l R c s b (k + 1)).did.length = dn + 1) := by show _ = _; rw [HS3.out]; simp [HDn.out]
                  have HF7 : Hid (∀ b', F9 b' → F3 b' ∨ w4.heap.size ≤ b') := fun b' h => by
                    rcases HF9.out b' h with h | h
                    · exact HF'.out b' h
                    · have := (HF2.out b' h).1; exact .inr (by omega)
                  have HDF7 : Hid (∀ b', (Value.slice ad6 (dn + 1) cd6).ownBlock = some b' → ¬ F9 b') := fun b' h1 h2 => by
                    rcases HF9.out b' h2 with h | h
                    · rcases HL6.out b' h1 with h3 | h3
                      · exact HDF.out b' h3 h
                      · have := HFl.out b' h; omega
                    · rcases HL6.out b' h1 with h3 | h3
                      · have := HDl.out b' h3; have := (HF2.out b' h).1; omega
                      · have := (HF2.out b' h).2; omega
                  have HVF7 : Hid (∀ b', (Value.slice ao7 (dn + 1) co7).ownBlock = some b' → ¬ F9 b') := fun b' h1 h2 => by
                    rcases HF9.out b' h2 with h | h
                    · rcases HLv.out b' h1 with h3 | h3
                      · exact HVF.out b' h3 h
                      · have := HFl.out b' h; omega
                    · rcases HLv.out b' h1 with h3 | h3
                      · have := HVl.out b' h3; have := (HF2.out b' h).1; omega
                      · have := (HF2.out b' h).2; have := HS9.out; omega
                  have HDV7 : Hid (∀ b', (Value.slice ad6 (dn + 1) cd6).ownBlock = some b' → ¬ (Value.slice ao7 (dn + 1) co7).ownBlock = some b') := fun b' h1 h2 => by
                    rcases HLv.out b' h2 with h3 | h3
                    · rcases HL6.out b' h1 with h4 | h4
                      · exact HDV.out b' h4 h3
                      · have := HVl.out b' h3; omega
                    · rcases HL6.out b' h1 with h4 | h4
                      · have := HDl.out b' h4; omega
                      · omega
                  have hmod7 : Mod (fun bb => F3 bb ∨ B + 1 ≤ bb) w4 w7 := (HM6.out.alloc _).trans ((Mod.of_grown gv7).mono (fun b' h => .inr (HVl.out b' h).1))
                  clear ov7 gv7 lv7 t1' t2' HO6 HV6 HD6 HM6
                  go_wp2
                  exact ⟨⟨k + 1, F9, ad6, ao7, cd6, co7, dn + 1, by omega, by go_num, rfl, rfl, HDn7, HO7, HF7, HD7, HV7, HDF7, HVF7, HDV7, hmod7⟩, by simp [intOf]; omega⟩
                · have HS3 : Hid (prN l R c s b (k + 1) = st) := by show _ = _; rw [HS2.out, if_neg hcode]
                  have hcode' : (r.code == 0) = false := by simp [hcode]
                  clear HS2
                  have HO4 : Hid (accsR.O wT V0 F' (.slice (some ⟨g, 0, none⟩) n c3) (prN l R c s b (k + 1)).accs) := by show accsR.O _ _ _ _ _; rw [HS3.out]; exact HOT.out
                  have HD4 : Hid (wT.ownsRow (B + 1) 2 1 (.slice pd dn qd) dn (intsC (prN l R c s b (k + 1)).did)) := by show World.ownsRow _ _ _ _ _ _ _; rw [HS3.out]; exact HDT.out
                  have HV4 : Hid (wT.ownsRow (B + 1) 65 2 (.slice po dn qo) dn (votsC (prN l R c s b (k + 1)).old)) := by show World.ownsRow _ _ _ _ _ _ _; rw [HS3.out]; exact HVT.out
                  have HDn4 : Hid ((prN l R c s b (k + 1)).did.length = dn) := by show _ = _; rw [HS3.out]; exact HDn.out
                  clear HOT HDT HVT HAT
                  go_wp2
                  exact ⟨⟨k + 1, F', pd, po, qd, qo, dn, by omega, by go_num, rfl, rfl, HDn4, HO4, HF', HD4, HV4, HDF, HVF, HDV, hmodT⟩, by simp [intOf]; omega⟩
            · have hkm : k = m := by omega
              subst hkm
              have HPi : Hid (∀ a ∈ (prN l R c s b k).did, 0 ≤ a ∧ a < n) := HPin.out HBk.out
              have hal := HLen.out k
              have hdl := HDid.out k
              have h5 := HBk.out.len
              rw [HMr.out] at h5
              obtain ⟨P, hP⟩ : ∃ P, P = prN l R c s b k := ⟨_, rfl⟩
              rw [← hP] at hD2 hD3 HPi hal hdl HO HD HV HDn
              clear hP HPin HLen HDid HRi
              replace r0 := hmod.cell r0 hneW
              replace r1 := hmod.cell r1 hneW
              replace r2 := hmod.cell r2 hneW
              replace rf : ∀ o, wr.frozen? ⟨w.heap.size, o, none⟩ = false := fun o => (World.frozen?_of_block (hmod.block w.heap.size (by omega) hneW)).trans (rf o)
              have HVo : Hid (votsR.V wr (.slice po dn qo) P.old) := VotsV_of_owns (by rw [hdl.2, HDn.out]; exact HV.out)
              have HPk : Hid (∀ W, Below wr.heap.size wr W → Calls Tryz.prog 31 #[.slice po dn qo, .int .i64 own] W fun e w' => e = .returned (.int .i64 (best own P.old P.old.length).val) ∧ Below W.heap.size W w') := fun W hW => l8Pick_any _ P.old own W (votsR.below HVo.out hW)
              have HQ : Hid (∀ W, Calls Tryz.prog 30 #[.int .i64 n] W fun e w' => e = .returned (.int .i64 (quoV n)) ∧ w' = W) := fun W => l8Quorum_any (n : Int) (inBi.2 (by omega)) W
              have HFV : Hid (∀ b', F' b' → V0 ≤ b' ∧ b' < wr.heap.size) := fun b' h => accsR.rng HO.out b' h
              have HFB : Hid (¬ F' B) := fun h => by
                rcases HF'.out B h with h1 | h1
                · have := HF3.out _ h1; omega
                · omega
              have HFW : Hid (¬ F' w.heap.size) := fun h => by have := HFV.out _ h; omega
              obtain ⟨ad, cd, hve, hdc, hdm, hdi⟩ := IntsV_of_owns (ys := P.did) (by rw [HDn.out]; exact HD.out)
              rw [HDn.out] at hve hdi
              simp only [Value.slice.injEq, true_and] at hve
              obtain ⟨rfl, rfl⟩ := hve
              unfold maxLen at hdm
              have HDi : Hid (∀ i, i < dn → ∃ bb o, pd = some ⟨bb, o, none⟩ ∧ wr.cell? ⟨bb, o + i, none⟩ = some (.int .i64 (P.did.getD i 0)) ∧ ¬ F' bb ∧ B + 1 ≤ bb) := fun i hi => by
                obtain ⟨bb, o, e, hc⟩ := hdi i hi
                have hob : ∀ q, (Value.slice pd dn qd).ownBlock = some q → ¬ F' q ∧ B + 1 ≤ q := fun q h => ⟨HDF.out q h, (HD.out.lt q h).1⟩
                refine ⟨bb, o, e, hc, ?_⟩
                rcases HD.out.2 with ⟨h1, h2⟩ | ⟨gg, cap, cur, h1, _⟩
                · omega
                · simp only [Value.slice.injEq] at h1
                  rw [e] at h1
                  simp only [Option.some.injEq, Addr.mk.injEq, and_true] at h1
                  obtain ⟨⟨rfl, rfl⟩, _, rfl⟩ := h1
                  exact hob _ (by rw [e]; rfl)
              rw [hdl.2, HDn.out] at HPk hD3
              rw [HDn.out] at hD2 hdl
              clear hdi HVo HV HD HDF HVF HDV hmod hneB hneW
              generalize quoV (n : Int) = Q at *
              by_cases hq : (dn : Int) < Q
              · have HC : Hid (Z = ⟨4, 0, P.accs⟩) := hD2.out hq
                clear hD2 hD3 HPk HDi
                go_wp2_with (first | (go_at_call 30; refine (HQ.out _).mono ?_; rintro e w' ⟨rfl, hw⟩; obtain rfl := hw.symm))
                have hneq : ¬ B = w.heap.size := by omega
                have hneq2 : ¬ w.heap.size = B := by omega
                refine bodyPost_ret (v := .agg #[.int .i64 4, .int .i64 0, .slice (some ⟨g, 0, none⟩) n c3]) (by simp [results, Tryz.results6, go_sem, r0, r1, r2, rf, p0, p1, p2, pf, hneq, hneq2]) rfl (runE_ok HC.out (F := F') ?_ (by (repeat (first | refine bset ?_ (by simp; omega) _ | refine bset ?_ (by simp) _ | refine balloc ?_ _ | assumption))))
                have h := accsR.base (base' := w.heap.size) HO.out (by omega)
                have hk : ∀ (W : World) (u : Value) (j : Nat), accsR.O W w.heap.size F' (.slice (some ⟨g, 0, none⟩) n c3) P.accs → accsR.O (W.setCell ⟨w.heap.size, j, none⟩ u) w.heap.size F' (.slice (some ⟨g, 0, none⟩) n c3) P.accs := fun W u j h => Rep.setN _ h u HFW.out
                have hk2 : ∀ (W : World) (u : Value) (j : Nat), accsR.O W w.heap.size F' (.slice (some ⟨g, 0, none⟩) n c3) P.accs → accsR.O (W.setCell ⟨B, j, none⟩ u) w.heap.size F' (.slice (some ⟨g, 0, none⟩) n c3) P.accs := fun W u j h => Rep.setN _ h u HFB.out
                exact hk _ _ _ (hk _ _ _ (hk _ _ _ (hk2 _ _ _ h)))
              have HC : Hid (Z = ⟨0, (best own P.old dn).val, acN P.accs P.did c s b (best own P.old dn).val dn⟩) := hD3.out (by omega)
              clear hD2 hD3
              go_wp2_with (first | (go_at_call 30; refine (HQ.out _).mono ?_; rintro e w' ⟨rfl, hw⟩; obtain rfl := hw.symm))
              refine (HPk.out _ (Below.refl _ _)).mono ?_
              rintro e w6 ⟨rfl, hb6⟩
              have hB6 : Below w.heap.size w w6 := bstep hBr hb6
              have hz6 := hb6.size
              replace r0 := cell_keep hb6 r0
              replace r1 := cell_keep hb6 r1
              replace r2 := cell_keep hb6 r2
              replace rf : ∀ o, w6.frozen? ⟨w.heap.size, o, none⟩ = false := fun o => by rw [(bcell hb6).2 _ _ (by omega)]; exact rf o
              replace p0 := cell_keep hb6 p0
              replace p1 := cell_keep hb6 p1
              replace p2 := cell_keep hb6 p2
              replace pf : ∀ o, w6.frozen? ⟨B, o, none⟩ = false := fun o => by rw [(bcell hb6).2 _ _ (by omega)]; exact pf o
              have HO6 : Hid (accsR.O w6 V0 F' (.slice (some ⟨g, 0, none⟩) n c3) P.accs) := accsR.keep HO.out hb6
              have HDi6 : Hid (∀ i, i < dn → ∃ bb o, pd = some ⟨bb, o, none⟩ ∧ w6.cell? ⟨bb, o + i, none⟩ = some (.int .i64 (P.did.getD i 0)) ∧ ¬ F' bb ∧ B + 1 ≤ bb) := fun i hi => by
                obtain ⟨bb, o, e, hc, h⟩ := HDi.out i hi
                exact ⟨bb, o, e, cell_keep hb6 hc, h⟩
              clear hb6 HO HDi HPk HQ hq
              generalize (best own P.old dn).val = V at *
              have HAl : Hid (∀ k, (acN P.accs P.did c s b V k).length = n) := fun k => by rw [acN_len, hal]
              have p0' : (w6.setCell ⟨B, 1, none⟩ (.int .i64 V)).cell? ⟨B, 0, none⟩ = some (.int .i64 0) := (set_other (by simp)).trans p0
              have p1' : (w6.setCell ⟨B, 1, none⟩ (.int .i64 V)).cell? ⟨B, 1, none⟩ = some (.int .i64 V) := set_same p1
              have p2' : (w6.setCell ⟨B, 1, none⟩ (.int .i64 V)).cell? ⟨B, 2, none⟩ = some (.slice (some ⟨g, 0, none⟩) n c3) := (set_other (by simp)).trans p2
              have pf' : ∀ o, (w6.setCell ⟨B, 1, none⟩ (.int .i64 V)).frozen? ⟨B, o, none⟩ = false := fun o => (World.frozen?_setCell _ _ _ _).trans (pf o)
              have r0' : (w6.setCell ⟨B, 1, none⟩ (.int .i64 V)).cell? ⟨w.heap.size, 0, none⟩ = some (.int .i64 0) := (set_other (by first | (simp; done) | (simp; omega))).trans r0
              have r1' : (w6.setCell ⟨B, 1, none⟩ (.int .i64 V)).cell? ⟨w.heap.size, 1, none⟩ = some (.int .i64 0) := (set_other (by first | (simp; done) | (simp; omega))).trans r1
              have r2' : (w6.setCell ⟨B, 1, none⟩ (.int .i64 V)).cell? ⟨w.heap.size, 2, none⟩ = some (.slice none 0 0) := (set_other (by first | (simp; done) | (simp; omega))).trans r2
              have rf' : ∀ o, (w6.setCell ⟨B, 1, none⟩ (.int .i64 V)).frozen? ⟨w.heap.size, o, none⟩ = false := fun o => (World.frozen?_setCell _ _ _ _).trans (rf o)
              have HO7 : Hid (accsR.O (w6.setCell ⟨B, 1, none⟩ (.int .i64 V)) V0 F' (.slice (some ⟨g, 0, none⟩) n c3) (acN P.accs P.did c s b V 0)) := Rep.setN _ HO6.out _ HFB.out
              have HDi7 : Hid (∀ i, i < dn → ∃ bb o, pd = some ⟨bb, o, none⟩ ∧ (w6.setCell ⟨B, 1, none⟩ (.int .i64 V)).cell? ⟨bb, o + i, none⟩ = some (.int .i64 (P.did.getD i 0)) ∧ ¬ F' bb ∧ B + 1 ≤ bb) := fun i hi => by
                obtain ⟨bb, o, e, hc, h, h2⟩ := HDi6.out i hi
                exact ⟨bb, o, e, (set_other (by first | (simp; done) | (simp; omega))).trans hc, h, h2⟩
              have hB7 : Below w.heap.size w (w6.setCell ⟨B, 1, none⟩ (.int .i64 V)) := bset hB6 (by dsimp only; omega) _
              have hz7 : w6.heap.size = (w6.setCell ⟨B, 1, none⟩ (.int .i64 V)).heap.size := by simp
              go_wp2
              clear HO6 HDi6 hB6 p0 p1 p2 pf r0 r1 r2 rf
              generalize w6.setCell ⟨B, 1, none⟩ (.int .i64 V) = w7 at *
              have HZ7 : Hid (w6.heap.size = w7.heap.size) := hz7
              clear hz7
              have hzA : B < w7.heap.size := World.block_lt_of_cell? w7 _ p0'
              have hzB : wr.heap.size ≤ w7.heap.size := by have := HZ7.out; omega
              have hgF : g < wr.heap.size := by omega
              clear hz6 HZ7
              go_loopw [21] (fun i w' => ∃ (k : Nat) (F4 : Nat → Prop), k ≤ dn ∧ i = .int .i64 k ∧ Hid (accsR.O w' V0 F4 (.slice (some ⟨g, 0, none⟩) n c3) (acN P.accs P.did c s b V k)) ∧ Hid (∀ b', F4 b' → F' b' ∨ w7.heap.size ≤ b') ∧ Mod F' w7 w') (fun i _ => dn - (intOf i).toNat)
              case atStart => exact ⟨0, F', Nat.zero_le _, rfl, HO7, fun b' h => .inl h, Mod.refl _ _⟩
              case round =>
                clear HO7
                rename_i wq
                obtain ⟨kk, F4, hkk, rfl, HO, HF4, hmod⟩ := hrel
                have hzr := hmod.size
                have hBq : Below w.heap.size w wr := hmod.below hB7 hB7.size (fun b' h => by have := HFV.out b' h; omega)
                replace p0' := hmod.cell p0' HFB.out
                replace p1' := hmod.cell p1' HFB.out
                replace p2' := hmod.cell p2' HFB.out
                replace pf' : ∀ o, wr.frozen? ⟨B, o, none⟩ = false := fun o => (World.frozen?_of_block (hmod.block B (by omega) HFB.out)).trans (pf' o)
                by_cases hlt : kk < dn
                · obtain ⟨bb, o, rfl, hc, hnb, hlb⟩ := HDi7.out kk hlt
                  replace hc := hmod.cell hc hnb
                  have hin := HPi.out (P.did.getD kk 0) (by simp [List.getD, HDn.out, hlt])
                  obtain ⟨i, hi⟩ : ∃ i : Nat, P.did.getD kk 0 = (i : Int) := ⟨(P.did.getD kk 0).toNat, by omega⟩
                  have HS : Hid (acN P.accs P.did c s b V (kk + 1) = acS c s b V (acN P.accs P.did c s b V kk) (i : Int)) := by show _ = _; rw [← hi]; rfl
                  rw [hi] at hc hin
                  clear hi
                  have hlen := HAl.out kk
                  obtain ⟨st, hst⟩ : ∃ st, st = acN P.accs P.did c s b V kk := ⟨_, rfl⟩
                  rw [← hst] at HS hlen HO
                  clear hst
                  obtain ⟨g', cap', p, q, hsl, _, _, hFg', gf, hcell, hVa⟩ := accs_read HO.out (show i < st.length by omega)
                  rw [hlen] at hsl
                  simp only [Value.slice.injEq, Option.some.injEq, Addr.mk.injEq, and_true, true_and] at hsl
                  obtain ⟨rfl, rfl⟩ := hsl
                  obtain ⟨r, hr⟩ : ∃ r, r = accAtD (st.getD i default).slots c s b V := ⟨_, rfl⟩
                  have HP : Hid (∀ W, Below wr.heap.size wr W → Calls Tryz.prog 32 #[.agg #[.slice p (st.getD i default).slots.length q], .int .i64 c, .int .i64 s, .int .i64 b, .int .i64 V] W (AskE r W)) := fun W hW => by rw [hr]; exact specAccAt_u _ _ c s b V W (accR.below hVa hW)
                  have HS2 : Hid (acN P.accs P.did c s b V (kk + 1) = if r.code = 0 then st.set i r.acc else st) := by
                    show _ = _
                    rw [HS.out, hr]
                    rfl
                  clear hr hVa HS
                  have hgz : g < wr.heap.size := (accsR.rng HO.out g hFg').2
                  have hbz : bb < wr.heap.size := World.block_lt_of_cell? wr _ hc
                  have hBz : B < wr.heap.size := by omega
                  generalize (st.getD i default).slots.length = mm at *
                  have i1 : (i : Int) < n := by omega
                  have i2 : (0 : Int) ≤ i := by omega
                  have k1 : (kk : Int) < dn := by omega
                  have k2 : (0 : Int) ≤ kk := by omega
                  go_wp2_with fail
                  go_cut [22] from 140 to 153 (fun p wx => ∃ (B : Nat) (av : Option Addr) (cv : Nat) (F2 : Nat → Prop), p = .pointer (some ⟨B, 0, none⟩) ∧ wx.cell? ⟨B, 0, none⟩ = some (.int .i64 r.code) ∧ wx.cell? ⟨B, 1, none⟩ = some (.int .i64 r.ob) ∧ wx.cell? ⟨B, 2, none⟩ = some (.int .i64 r.ov) ∧ wx.cell? ⟨B, 3, none⟩ = some (.slice av r.acc.slots.length cv) ∧ wr.heap.size ≤ B ∧ B < wx.heap.size ∧ Hid (accR.O wx wr.heap.size F2 (.agg #[.slice av r.acc.slots.length cv]) r.acc) ∧ Hid (∀ b', F2 b' → ¬ b' = B) ∧ Below wr.heap.size wr wx)
                  case first =>
                    go_region_held3 (fun W => Below wr.heap.size wr W ∧ W.cell? ⟨B, 2, none⟩ = some (.slice (some ⟨g, 0, none⟩) n c3) ∧ W.cell? ⟨bb, o + kk, none⟩ = some (.int .i64 i) ∧ W.cell? ⟨g, i, none⟩ = some (.slice p mm q) ∧ W.cell? ⟨B, 1, none⟩ = some (.int .i64 V))
                      ((refine keepN4 ?_ p2' hc hcell p1'; (repeat (first | exact Below.refl _ _ | assumption | refine Below.drew ?_ | refine balloc ?_ _ | refine bset ?_ (by simp; omega) _ | refine bset ?_ (by simp) _ | refine bstep ?_ (by assumption)))))
                      (first | (go_at_call 32; refine (HP.out _ (by (repeat (first | exact Below.refl _ _ | assumption | refine Below.drew ?_ | refine balloc ?_ _ | refine bset ?_ (by simp; omega) _ | refine bset ?_ (by simp) _ | refine bstep ?_ (by assumption))))).mono ?_; rintro e w2 ⟨v2, F2, rfl, o2, hb2⟩; have o3 := accR_cells o2; obtain ⟨av, cv, rfl, o3⟩ := o3; have hz2 := hb2.size; (first | (have kk := boxNew4 (B := wr.heap.size) hb2 rfl; obtain ⟨k0, k1, k2, k3, kf, kl⟩ := kk) | (have kk := boxNew4 (B := wr.heap.size) (bstep (Below.drew (Below.refl _ _)) hb2) rfl; obtain ⟨k0, k1, k2, k3, kf, kl⟩ := kk) | skip)))
                    all_goals
                      rename_i hH
                      have hHB := hH.1
                      clear hH
                      go_wp2_with fail
                      go_meet
                      case rel =>
                        first
                          | (refine ⟨wr.heap.size, av, cv, F2, rfl, ?_, ?_, ?_, ?_, Nat.le_refl _, ?_, ?_, ?_, hHB⟩
                             · simp [go_sem, k0, k1, k2, k3, kf]
                             · simp [go_sem, k0, k1, k2, k3, kf]
                             · simp [go_sem, k0, k1, k2, k3, kf]
                             · simp [go_sem, k0, k1, k2, k3, kf]
                             · simp; omega
                             · exact accR.base (Rep.setN _ (Rep.setN _ (Rep.setN _ (Rep.setN _ o3 _ (fun hb => by have := (accR.rng o3 _ hb).1; simp at this; omega)) _ (fun hb => by have := (accR.rng o3 _ hb).1; simp at this; omega)) _ (fun hb => by have := (accR.rng o3 _ hb).1; simp at this; omega)) _ (fun hb => by have := (accR.rng o3 _ hb).1; simp at this; omega)) (by simp)
                             · exact fun b' hb e => by have := (accR.rng o3 b' hb).1; simp at this; omega)
                          | (refine ⟨w2.heap.size, av, cv, F2, rfl, ?_, ?_, ?_, ?_, ?_, ?_, ?_, ?_, hHB⟩
                             · simp [go_sem]
                             · simp [go_sem]
                             · simp [go_sem]
                             · simp [go_sem]
                             · simp at hz2; omega
                             · simp
                             · exact accR.base (accR.alloc o3 _) (by simp)
                             · exact fun b' hb e => by have := (accR.rng o3 b' hb).2; omega)
                  case rest =>
                    obtain ⟨BT, av, cv, F2, rfl, q0, q1, q2, q3, loT, hiT, HA, HAB, hbx⟩ := hcut
                    generalize hwc : wc = wT at *
                    clear hwc
                    have hzT := hbx.size
                    have hcT := cell_keep hbx hc
                    have gfT : ∀ o, wT.frozen? ⟨g, o, none⟩ = false := fun o => by rw [(bcell hbx).2 _ _ hgz]; exact gf o
                    have hcellT := cell_keep hbx hcell
                    have HOT : Hid (accsR.O wT V0 F4 (.slice (some ⟨g, 0, none⟩) n c3) st) := accsR.keep HO.out hbx
                    have HAT : Hid (accR.O wT V0 F2 (.agg #[.slice av r.acc.slots.length cv]) r.acc) := accR.base HA.out (by have := (HFV.out g (by rcases HF4.out g hFg' with h | h; exact h; omega)).1; omega)
                    have HFl : Hid (∀ bb, F4 bb → bb < wr.heap.size) := fun bb h => (accsR.rng HO.out bb h).2
                    have HF2 : Hid (∀ bb, F2 bb → wr.heap.size ≤ bb ∧ bb < wT.heap.size) := fun bb h => accR.rng HA.out bb h
                    have HGF : Hid (F' g ∨ w7.heap.size ≤ g) := HF4.out g hFg'
                    have hmodT : Mod F' w7 wT := hmod.trans (Mod.of_below hbx)
                    replace p0' := cell_keep hbx p0'
                    replace p1' := cell_keep hbx p1'
                    replace p2' := cell_keep hbx p2'
                    replace pf' : ∀ o, wT.frozen? ⟨B, o, none⟩ = false := fun o => by rw [(bcell hbx).2 _ _ (by omega)]; exact pf' o
                    clear hbx HP HO hc hcell gf hmod HA
                    by_cases hcode : r.code = 0
                    · have HS3 : Hid (acN P.accs P.did c s b V (kk + 1) = st.set i r.acc) := by show _ = _; rw [HS2.out, if_pos hcode]
                      rw [hcode] at q0
                      clear hcode HS2
                      have hgzT : g < wT.heap.size := by omega
                      have hbzT : bb < wT.heap.size := by omega
                      have hstore := accs_store (w := wT) (i := i) (by rw [hlen]; exact HOT.out) (by omega) HAT.out (fun b' h1 h2 => by have := HFl.out b' h1; have := (HF2.out b' h2).1; omega)
                      rw [hlen] at hstore
                      obtain ⟨F9, o9, hm9, hF9⟩ := hstore
                      have hb9 : Below (wT.setCell ⟨g, i, none⟩ (.slice av r.acc.slots.length cv)).heap.size (wT.setCell ⟨g, i, none⟩ (.slice av r.acc.slots.length cv)) (wT.setCell ⟨g, i, none⟩ (.slice av r.acc.slots.length cv)).drew := Below.drew (Below.refl _ _)
                      have HO9 : Hid (accsR.O (wT.setCell ⟨g, i, none⟩ (.slice av r.acc.slots.length cv)).drew V0 F9 (.slice (some ⟨g, 0, none⟩) n c3) (acN P.accs P.did c s b V (kk + 1))) := by
                        show accsR.O _ _ _ _ _
                        rw [HS3.out]
                        exact accsR.keep o9 hb9
                      have HF9 : Hid (∀ b', F9 b' → F' b' ∨ w7.heap.size ≤ b') := fun b' h => by
                        rcases hF9 b' h with h | h
                        · exact HF4.out b' h
                        · have := (HF2.out b' h).1; exact .inr (by omega)
                      have HM9 : Hid (Mod F' w7 (wT.setCell ⟨g, i, none⟩ (.slice av r.acc.slots.length cv)).drew) := by
                        have hm := hm9.trans (Mod.of_below hb9)
                        refine ⟨hm.os.trans hmodT.os, hm.tape.trans hmodT.tape, hm.output.trans hmodT.output, Nat.le_trans hmodT.size hm.size, fun j hj hn => (hm.block j (Nat.lt_of_lt_of_le hj hmodT.size) (fun e => ?_)).trans (hmodT.block j hj hn)⟩
                        rcases HGF.out with h | h
                        · exact hn (e ▸ h)
                        · omega
                      clear o9 hm9 hF9 hmodT HOT HAT hb9
                      go_wp2
                      refine wp_region_noPanic ?_
                      refine region_upto (fun W => Below wT.heap.size wT W ∧ W.cell? ⟨B, 2, none⟩ = some (.slice (some ⟨g, 0, none⟩) n c3) ∧ W.cell? ⟨bb, o + kk, none⟩ = some (.int .i64 i) ∧ W.cell? ⟨BT, 3, none⟩ = some (.slice av r.acc.slots.length cv)) 9 (by kernel_rfl) ⟨by (repeat (first | exact Below.refl _ _ | assumption | refine Below.drew ?_ | refine balloc ?_ _ | refine bset ?_ (by simp; omega) _ | refine bset ?_ (by simp) _ | refine bstep ?_ (by assumption))), cell_keep (by (repeat (first | exact Below.refl _ _ | assumption | refine Below.drew ?_ | refine balloc ?_ _ | refine bset ?_ (by simp; omega) _ | refine bset ?_ (by simp) _ | refine bstep ?_ (by assumption)))) p2', cell_keep (by (repeat (first | exact Below.refl _ _ | assumption | refine Below.drew ?_ | refine balloc ?_ _ | refine bset ?_ (by simp; omega) _ | refine bset ?_ (by simp) _ | refine bstep ?_ (by assumption)))) hcT, cell_keep (by (repeat (first | exact Below.refl _ _ | assumption | refine Below.drew ?_ | refine balloc ?_ _ | refine bset ?_ (by simp; omega) _ | refine bset ?_ (by simp) _ | refine bstep ?_ (by assumption)))) q3⟩ (fun hS => ?_)
                      refine upto_take (i := 0) (v := ?_) rfl (by kernel_rfl) (by kernel_rfl) (by kernel_rfl) (by kernel_rfl) (fun _ _ _ h => h) (by rfl) hS ?_ ?_
                      rotate_left
                      · intro wS hSw
                        try dsimp only at hSw
                        first | (go_simp; done) | (go_simp; with_reducible rfl)
                      try simp only [Act.put, List.getElem_toArray, List.getElem_cons_zero, List.getElem_cons_succ, List.setIfInBounds_toArray, List.set_cons_zero, List.set_cons_succ]
                      refine upto_take (i := 1) (v := ?_) rfl (by kernel_rfl) (by kernel_rfl) (by kernel_rfl) (by kernel_rfl) (fun _ _ _ h => h) (by rfl) hS ?_ ?_
                      rotate_left
                      · intro wS hSw
                        try dsimp only at hSw
                        first | (go_simp; done) | (go_simp; with_reducible rfl)
                      try simp only [Act.put, List.getElem_toArray, List.getElem_cons_zero, List.getElem_cons_succ, List.setIfInBounds_toArray, List.set_cons_zero, List.set_cons_succ]
                      refine upto_take (i := 2) (v := ?_) rfl (by kernel_rfl) (by kernel_rfl) (by kernel_rfl) (by kernel_rfl) (fun _ _ _ h => h) (by rfl) hS ?_ ?_
                      rotate_left
                      · intro wS hSw
                        try dsimp only at hSw
                        first | (go_simp; done) | (go_simp; with_reducible rfl)
                      try simp only [Act.put, List.getElem_toArray, List.getElem_cons_zero, List.getElem_cons_succ, List.setIfInBounds_toArray, List.set_cons_zero, List.set_cons_succ]
                      refine upto_take (i := 3) (v := ?_) rfl (by kernel_rfl) (by kernel_rfl) (by kernel_rfl) (by kernel_rfl) (fun _ _ _ h => h) (by rfl) hS ?_ ?_
                      rotate_left
                      · intro wS hSw
                        try dsimp only at hSw
                        first | (go_simp; done) | (go_simp; with_reducible rfl)
                      try simp only [Act.put, List.getElem_toArray, List.getElem_cons_zero, List.getElem_cons_succ, List.setIfInBounds_toArray, List.set_cons_zero, List.set_cons_succ]
                      refine upto_take (i := 4) (v := ?_) rfl (by kernel_rfl) (by kernel_rfl) (by kernel_rfl) (by kernel_rfl) (fun _ _ _ h => h) (by rfl) hS ?_ ?_
                      rotate_left
                      · intro wS hSw
                        try dsimp only at hSw
                        first | (go_simp; done) | (go_simp; with_reducible rfl)
                      try simp only [Act.put, List.getElem_toArray, List.getElem_cons_zero, List.getElem_cons_succ, List.setIfInBounds_toArray, List.set_cons_zero, List.set_cons_succ]
                      refine upto_take (i := 5) (v := ?_) rfl (by kernel_rfl) (by kernel_rfl) (by kernel_rfl) (by kernel_rfl) (fun _ _ _ h => h) (by rfl) hS ?_ ?_
                      rotate_left
                      · intro wS hSw
                        try dsimp only at hSw
                        first | (go_simp; done) | (go_simp; with_reducible rfl)
                      try simp only [Act.put, List.getElem_toArray, List.getElem_cons_zero, List.getElem_cons_succ, List.setIfInBounds_toArray, List.set_cons_zero, List.set_cons_succ]
                      refine upto_take (i := 6) (v := ?_) rfl (by kernel_rfl) (by kernel_rfl) (by kernel_rfl) (by kernel_rfl) (fun _ _ _ h => h) (by rfl) hS ?_ ?_
                      rotate_left
                      · intro wS hSw
                        try dsimp only at hSw
                        first | (go_simp; done) | (go_simp; with_reducible rfl)
                      try simp only [Act.put, List.getElem_toArray, List.getElem_cons_zero, List.getElem_cons_succ, List.setIfInBounds_toArray, List.set_cons_zero, List.set_cons_succ]
                      refine upto_take (i := 7) (v := ?_) rfl (by kernel_rfl) (by kernel_rfl) (by kernel_rfl) (by kernel_rfl) (fun _ _ _ h => h) (by rfl) hS ?_ ?_
                      rotate_left
                      · intro wS hSw
                        try dsimp only at hSw
                        first | (go_simp; done) | (go_simp; with_reducible rfl)
                      try simp only [Act.put, List.getElem_toArray, List.getElem_cons_zero, List.getElem_cons_succ, List.setIfInBounds_toArray, List.set_cons_zero, List.set_cons_succ]
                      refine upto_take (i := 8) (v := ?_) rfl (by kernel_rfl) (by kernel_rfl) (by kernel_rfl) (by kernel_rfl) (fun _ _ _ h => h) (by rfl) hS ?_ ?_
                      rotate_left
                      · intro wS hSw
                        try dsimp only at hSw
                        first | (go_simp; done) | (go_simp; with_reducible rfl)
                      try simp only [Act.put, List.getElem_toArray, List.getElem_cons_zero, List.getElem_cons_succ, List.setIfInBounds_toArray, List.set_cons_zero, List.set_cons_succ]
                      refine upto_step (i := 9) (by kernel_rfl) rfl ?_
                      intro K hK
                      go_simp
                      refine hK _ _ (fun h => absurd rfl h) ?_
                      clear hK K
                      refine upto_done (by kernel_rfl) ?_
                      refine NoPanic.normal ?_
                      clear hS
                      generalize (wT.setCell ⟨g, i, none⟩ (.slice av r.acc.slots.length cv)).drew = W5 at *
                      go_wp2
                      exact ⟨⟨kk + 1, F9, by omega, by go_num, HO9, HF9, HM9.out⟩, by simp [intOf]; omega⟩
                    · have HS3 : Hid (acN P.accs P.did c s b V (kk + 1) = st) := by show _ = _; rw [HS2.out, if_neg hcode]
                      have hcode' : (r.code == 0) = false := by simp [hcode]
                      clear HS2
                      have HO9 : Hid (accsR.O wT V0 F4 (.slice (some ⟨g, 0, none⟩) n c3) (acN P.accs P.did c s b V (kk + 1))) := by
                        show accsR.O _ _ _ _ _
                        rw [HS3.out]
                        exact HOT.out
                      clear HOT HAT
                      go_wp2
                      exact ⟨⟨kk + 1, F4, by omega, by go_num, HO9, HF4, hmodT⟩, by simp [intOf]; omega⟩
                · have hkm : kk = dn := by omega
                  subst hkm
                  replace r0' := hmod.cell r0' HFW.out
                  replace r1' := hmod.cell r1' HFW.out
                  replace r2' := hmod.cell r2' HFW.out
                  replace rf' : ∀ o, wr.frozen? ⟨w.heap.size, o, none⟩ = false := fun o => (World.frozen?_of_block (hmod.block w.heap.size (by omega) HFW.out)).trans (rf' o)
                  have HFr2 : Hid (∀ b', F4 b' → V0 ≤ b') := fun b' h => (accsR.rng HO.out b' h).1
                  have hneq : ¬ B = w.heap.size := by omega
                  have hneq2 : ¬ w.heap.size = B := by omega
                  go_wp2
                  refine bodyPost_ret (v := .agg #[.int .i64 0, .int .i64 V, .slice (some ⟨g, 0, none⟩) n c3]) (by simp [results, Tryz.results6, go_sem, r0', r1', r2', rf', p0', p1', p2', pf', hneq, hneq2]) rfl (runE_ok HC.out (F := F4) ?_ (by (repeat (first | refine bset ?_ (by simp; omega) _ | refine bset ?_ (by simp) _ | refine balloc ?_ _ | assumption))))
                  have h := accsR.base (base' := w.heap.size) HO.out (by omega)
                  have hk : ∀ (W : World) (u : Value) (j : Nat), accsR.O W w.heap.size F4 (.slice (some ⟨g, 0, none⟩) n c3) (acN P.accs P.did c s b V kk) → accsR.O (W.setCell ⟨w.heap.size, j, none⟩ u) w.heap.size F4 (.slice (some ⟨g, 0, none⟩) n c3) (acN P.accs P.did c s b V kk) := fun W u j h => Rep.setN _ h u (fun hb => by have := HFr2.out _ hb; dsimp only at this; omega)
                  exact hk _ _ _ (hk _ _ _ (hk _ _ _ h))
end Go.Proofs.YtncmdeijimgchaaGreat

/-
  What a ballot leaves behind has no fault.
-/
namespace Go.Proofs.YtncmdeijimgchaaGreat
open Go.RowKit
set_option linter.unusedSectionVars false
variable [DecidableEq Vot] [Inhabited Vot] [DecidableEq Slt] [Inhabited Slt] [DecidableEq SltR] [Inhabited SltR] [DecidableEq Bal] [Inhabited Bal] [DecidableEq Ledg] [Inhabited Ledg] [DecidableEq Leg] [Inhabited Leg] [DecidableEq Acc] [Inhabited Acc] [DecidableEq AccR] [Inhabited AccR] [DecidableEq AccsR] [Inhabited AccsR] [DecidableEq SltsR] [Inhabited SltsR]

theorem sltF_ok {s : Slt} (h : SltOk s) : sltFault s = 0 := by
  rw [sltF_end h.range h.len (scanI_of fun k hk => votAt_ok (h.at_ k hk).1 (h.at_ k hk).2), if_pos ⟨h.last, h.pr⟩]
theorem promD_fine {d : Slt} {b : Int} (h : (promD d b).code = 0) : sltFault (promD d b).slot = 0 ∧ (promD d b).slot.con = d.con ∧ (promD d b).slot.sh = d.sh ∧ (promD d b).slot.cast = d.cast ∧ (promD d b).slot.pr = b ∧ d.pr ≤ b ∧ sltFault d = 0 := by
  by_cases hf : sltFault d = 0
  · cases hb : inB b 0 1000 with
    | false => rw [promD_range hf hb] at h; simp [errS] at h
    | true =>
      by_cases hl : b < d.pr
      · rw [promD_busy hf hb hl] at h; simp [errS] at h
      · rw [promD_ok hf hb hl]
        have ok := sltOk_of hf
        have hr := sltRange_iff.1 ok.range
        have hb' := inBi.1 hb
        have hp := ok.pr
        refine ⟨sltF_ok ⟨sltRange_iff.2 ⟨hr.1, by dsimp only; omega⟩, ok.len, ok.at_, ok.last, by dsimp only; omega⟩, rfl, rfl, rfl, rfl, by omega, hf⟩
  · rw [promD_fault hf] at h
    exact absurd h hf
theorem accS_fine {d : Slt} {v : Vot} (hf : sltFault d = 0) (hv : votB v = true) (hc : accC d v = 0) : sltFault (accS d v) = 0 := by
  have ok := sltOk_of hf
  have hr := sltRange_iff.1 ok.range
  have hv' := votB_iff.1 hv
  by_cases h1 : v.bal < d.pr
  · rw [accC_busy h1] at hc; omega
  by_cases h2 : v.bal = d.lb
  · by_cases h3 : v.val = d.lv
    · rw [accS_same h2 h3]
      exact sltF_ok ⟨sltRange_iff.2 ⟨hr.1, by dsimp only; omega⟩, ok.len, ok.at_, ⟨h2.trans ok.last.1, h3.trans ok.last.2⟩, Int.le_refl _⟩
    · rw [accC_taken h1 h2 h3] at hc; omega
  · by_cases h4 : 60 ≤ d.cast.length
    · rw [accC_many h1 h2 h4] at hc; omega
    · rw [accS_new h2]
      have hp := ok.pr
      have hl : lastV (d.cast ++ [v]) (d.cast ++ [v]).length = v := by
        rw [List.length_append, List.length_singleton, lastV_succ]
        simp
      have hk' : ∀ k, k ≤ d.cast.length → lastV (d.cast ++ [v]) k = lastV d.cast k := fun k hk => by
        cases k with
        | zero => rfl
        | succ k => rw [lastV_succ, lastV_succ]; simp [List.getElem?_append_left (show k < d.cast.length by omega)]
      refine sltF_ok ⟨sltRange_iff.2 ⟨hr.1, by dsimp only; omega⟩, by simp; omega, fun k hk => ?_, by dsimp only; rw [hl]; exact ⟨rfl, rfl⟩, Int.le_refl _⟩
      dsimp only at hk ⊢
      rw [List.length_append, List.length_singleton] at hk
      rw [hk' k (by omega)]
      by_cases hkn : k < d.cast.length
      · have e : (d.cast ++ [v]).getD k default = d.cast.getD k default := by simp [List.getElem?_append_left hkn]
        rw [e]
        exact ok.at_ k hkn
      · obtain rfl : k = d.cast.length := by omega
        have e : (d.cast ++ [v]).getD d.cast.length default = v := by simp
        rw [e]
        refine ⟨hv, ?_⟩
        have h5 := ok.last.1
        unfold other
        rw [decide_eq_false (by omega), decide_eq_false (by omega)]
        rfl
theorem accD_fine {d : Slt} {b v : Int} (h : (accD d b v).code = 0) : sltFault (accD d b v).slot = 0 ∧ (accD d b v).slot = accS d ⟨b, v⟩ ∧ accC d ⟨b, v⟩ = 0 ∧ votB ⟨b, v⟩ = true ∧ sltFault d = 0 := by
  by_cases hf : sltFault d = 0
  · cases hb : (inB b 0 1000 && inB v 1 2) with
    | false => rw [accD_range hf hb] at h; simp [errS] at h
    | true =>
      by_cases hl : accC d ⟨b, v⟩ = 0
      · rw [accD_ok hf hb hl]
        exact ⟨accS_fine hf hb hl, rfl, hl, hb, hf⟩
      · rw [accD_code hf hb hl] at h
        exact absurd h hl
  · rw [accD_fault hf] at h
    exact absurd h hf
theorem accF_ok {xs : List Slt} (h : AccOk xs) : accF xs = 0 := by
  refine accF_end (by have := h.len; omega) (scanI_of fun k hk => ?_)
  cases k with
  | zero => exact accAt_first (h.ok 0 hk)
  | succ k => exact accAt_ok (h.ok _ hk) (h.ord k (k + 1) (by omega) hk)
theorem posS_lt {s : Slt} : ∀ {xs : List Slt} {k : Nat}, k < posS s xs → aheadS (xs.getD k default) s = true
  | [], k, h => by simp [posS] at h
  | x :: xs, k, h => by
    unfold posS at h
    split at h
    · cases k with
      | zero => simpa using ‹aheadS x s = true›
      | succ k => simpa using posS_lt (s := s) (xs := xs) (k := k) (by omega)
    · omega
theorem posS_at {s : Slt} : ∀ {xs : List Slt}, posS s xs < xs.length → aheadS (xs.getD (posS s xs) default) s = false
  | [], h => by simp [posS] at h
  | x :: xs, h => by
    unfold posS at h ⊢
    by_cases e : aheadS x s = true
    · rw [if_pos e] at h ⊢
      simpa using posS_at (s := s) (xs := xs) (by simpa using h)
    · rw [if_neg e]
      simpa using e
theorem putS_ok {xs : List Slt} {s : Slt} (h : AccOk xs) (hs : sltFault s = 0) (hl : (putS xs s).length ≤ 60) : AccOk (putS xs s) := by
  obtain ⟨i, hi⟩ : ∃ i, posS s xs = i := ⟨_, rfl⟩
  have hle := posS_le s xs
  have hlt := fun k => posS_lt (s := s) (xs := xs) (k := k)
  have hat := posS_at (s := s) (xs := xs)
  rw [hi] at hle hlt hat
  by_cases hc : i < xs.length ∧ aheadS s (xs.getD i default) = false
  · rw [putS_set hi hc.1 hc.2] at hl ⊢
    have h1 := hat hc.1
    have h2 := hc.2
    rw [aheadS_no] at h1 h2
    have hg : ∀ k, (xs.set i s).getD k default = if k = i then s else xs.getD k default := fun k => by
      by_cases e : k = i
      · subst e; rw [if_pos rfl]; simp [hc.1]
      · rw [if_neg e]; simp [List.getElem?_set_ne (Ne.symm e)]
    refine ⟨hl, fun k hk => ?_, fun p q hpq hq => ?_⟩
    · rw [hg]
      split
      · exact hs
      · exact h.ok k (by simpa using hk)
    · rw [List.length_set] at hq
      have h3 := h.ord p q hpq hq
      rw [hg, hg]
      by_cases e1 : p = i
      · subst e1
        rw [if_pos rfl, if_neg (by omega)]
        rw [aheadS_iff] at h3 ⊢
        omega
      · rw [if_neg e1]
        by_cases e2 : q = i
        · subst e2
          rw [if_pos rfl]
          exact hlt p hpq
        · rw [if_neg e2]; exact h3
  · rw [putS_ins hi hc] at hl ⊢
    have hg : ∀ k, (xs.take i ++ [s] ++ xs.drop i).getD k default = if k < i then xs.getD k default else if k = i then s else xs.getD (k - 1) default := fun k => by
      have ht : (xs.take i).length = i := by rw [List.length_take]; omega
      by_cases e : k < i
      · rw [if_pos e, List.append_assoc]
        simp only [List.getD_eq_getElem?_getD]
        rw [List.getElem?_append_left (by omega), List.getElem?_take_of_lt e]
      · rw [if_neg e]
        by_cases e2 : k = i
        · subst e2
          rw [if_pos rfl, List.append_assoc]
          simp only [List.getD_eq_getElem?_getD]
          rw [List.getElem?_append_right (by omega), ht]
          simp
        · rw [if_neg e2]
          simp only [List.getD_eq_getElem?_getD]
          rw [List.getElem?_append_right (by rw [List.length_append, ht, List.length_singleton]; omega), List.length_append, ht, List.length_singleton, List.getElem?_drop]
          rw [show i + (k - (i + 1)) = k - 1 by omega]
    have hah : ∀ q, i ≤ q → q < xs.length → aheadS s (xs.getD q default) = true := fun q hq hq' => by
      have h0 : aheadS s (xs.getD i default) = true := by
        cases e : aheadS s (xs.getD i default) with
        | true => rfl
        | false => exact absurd ⟨by omega, e⟩ hc
      by_cases e : q = i
      · subst e; exact h0
      · exact aheadS_trans h0 (h.ord i q (by omega) hq')
    rw [len_ins] at hl
    refine ⟨by rw [len_ins]; exact hl, fun k hk => ?_, fun p q hpq hq => ?_⟩
    · rw [len_ins] at hk
      rw [hg]
      split
      · exact h.ok k (by omega)
      · split
        · exact hs
        · exact h.ok _ (by omega)
    · rw [len_ins] at hq
      rw [hg, hg]
      by_cases e1 : q < i
      · rw [if_pos (by omega), if_pos e1]; exact h.ord p q hpq (by omega)
      · rw [if_neg e1]
        by_cases e2 : q = i
        · rw [if_pos e2, if_pos (by omega)]; exact hlt p (by omega)
        · rw [if_neg e2]
          by_cases e3 : p < i
          · rw [if_pos e3]; exact h.ord p (q - 1) (by omega) (by omega)
          · rw [if_neg e3]
            by_cases e4 : p = i
            · rw [if_pos e4]; exact hah (q - 1) (by omega) (by omega)
            · rw [if_neg e4]; exact h.ord (p - 1) (q - 1) (by omega) (by omega)
theorem toldD_fine {xs : List Slt} {r : SltR} (h : AccOk xs) (hr : r.code = 0 → sltFault r.slot = 0) (hc : (toldD xs r).code = 0) : r.code = 0 ∧ (toldD xs r).acc.slots = putS xs r.slot ∧ AccOk (putS xs r.slot) ∧ (toldD xs r).ob = r.ob ∧ (toldD xs r).ov = r.ov := by
  by_cases h0 : r.code = 0
  · by_cases h1 : 60 < (putS xs r.slot).length
    · rw [toldD_many h0 h1] at hc; simp [errA] at hc
    · rw [toldD_ok h0 h1]
      exact ⟨h0, rfl, putS_ok h (hr h0) (by omega), rfl, rfl⟩
  · rw [toldD_code h0] at hc
    exact absurd hc h0
theorem promAtD_told {xs : List Slt} {c s b : Int} (h : (promAtD xs c s b).code = 0) : accF xs = 0 ∧ idOk c s = true ∧ promAtD xs c s b = toldD xs (promD (slotO xs (freS c s)) b) := by
  unfold promAtD at h ⊢
  by_cases h0 : accF xs = 0
  · rw [if_pos h0] at h ⊢
    by_cases h1 : idOk c s = true
    · rw [if_pos h1]; exact ⟨h0, h1, rfl⟩
    · rw [if_neg h1] at h; simp [errA] at h
  · rw [if_neg h0] at h
    exact absurd h h0
theorem accAtD_told {xs : List Slt} {c s b v : Int} (h : (accAtD xs c s b v).code = 0) : accF xs = 0 ∧ idOk c s = true ∧ accAtD xs c s b v = toldD xs (accD (slotO xs (freS c s)) b v) := by
  unfold accAtD at h ⊢
  by_cases h0 : accF xs = 0
  · rw [if_pos h0] at h ⊢
    by_cases h1 : idOk c s = true
    · rw [if_pos h1]; exact ⟨h0, h1, rfl⟩
    · rw [if_neg h1] at h; simp [errA] at h
  · rw [if_neg h0] at h
    exact absurd h h0
theorem promAtD_fine {xs : List Slt} {c s b : Int} (h : (promAtD xs c s b).code = 0) : accF (promAtD xs c s b).acc.slots = 0 := by
  obtain ⟨h0, h1, e⟩ := promAtD_told h
  rw [e] at h ⊢
  obtain ⟨_, e2, ok, _⟩ := toldD_fine (accOk_of h0) (fun hc => (promD_fine hc).1) h
  rw [e2]
  exact accF_ok ok
theorem accAtD_fine {xs : List Slt} {c s b v : Int} (h : (accAtD xs c s b v).code = 0) : accF (accAtD xs c s b v).acc.slots = 0 := by
  obtain ⟨h0, h1, e⟩ := accAtD_told h
  rw [e] at h ⊢
  obtain ⟨_, e2, ok, _⟩ := toldD_fine (accOk_of h0) (fun hc => (accD_fine hc).1) h
  rw [e2]
  exact accF_ok ok
theorem ListOk.put {l : List Acc} {i : Nat} {a : Acc} (h : ListOk l) (ha : accF a.slots = 0) : ListOk (l.set i a) := by
  refine ⟨by rw [List.length_set]; exact h.lo, by rw [List.length_set]; exact h.hi, fun k hk => ?_⟩
  rw [List.length_set] at hk
  by_cases e : i = k
  · subst e
    have e2 : (l.set i a).getD i default = a := by simp [hk]
    rw [e2]; exact ha
  · have e2 : (l.set i a).getD k default = l.getD k default := by simp [List.getElem?_set_ne e]
    rw [e2]; exact h.ok k hk
theorem prS_ok {c s b : Int} {st : Pst} {a : Int} (h : ListOk st.accs) : ListOk (prS c s b st a).accs := by
  unfold prS
  split
  · exact h.put (promAtD_fine ‹_›)
  · exact h
theorem prN_ok {l : List Acc} (R : List Int) (c s b : Int) (h : ListOk l) : ∀ k, ListOk (prN l R c s b k).accs
  | 0 => h
  | k + 1 => prS_ok (prN_ok R c s b h k)
theorem acS_ok {c s b v : Int} {l : List Acc} {a : Int} (h : ListOk l) : ListOk (acS c s b v l a) := by
  unfold acS
  split
  · exact h.put (accAtD_fine ‹_›)
  · exact h
theorem acN_ok {l : List Acc} (Dd : List Int) (c s b v : Int) (h : ListOk l) : ∀ k, ListOk (acN l Dd c s b v k)
  | 0 => h
  | k + 1 => acS_ok (acN_ok Dd c s b v h k)
end Go.Proofs.YtncmdeijimgchaaGreat

