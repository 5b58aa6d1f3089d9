import Derived.Test.YteppnppknfldbaaPrnAgreesLaw22
import Derived.Test.YteppnppknfldbaaPrnAgreesLaw19
import Derived.Test.YteppnppknfldbaaPrnAgreesLaw4
import Derived.Maps.RangeWalk
import Derived.BigQuiet
import Derived.Deep.QuietTactic
import Derived.Test.YteppnppknfldbaaPrnAgreesLaw12
import Derived.Test.YteppnppknfldbaaPrnAgreesLaw18
import Derived.Deep.RegionHeld3

/-
  tally.add: votes counted in a map.
-/
set_option linter.unusedSimpArgs false
set_option linter.unusedVariables false
namespace Go.Proofs.Yteppnppknfldbaa
open Go.RowKit Go.Maps Go.Sort Go.Shelf
set_option linter.unusedSectionVars false
variable [DecidableEq Vot] [Inhabited Vot] [DecidableEq Slt] [Inhabited Slt] [DecidableEq SltR] [Inhabited SltR] [DecidableEq Bal] [Inhabited Bal] [DecidableEq Ledg] [Inhabited Ledg] [DecidableEq Leg] [Inhabited Leg]
attribute [local go_sem ↓] Go.wp_at_zero Go.wp_at_succ

theorem Bkv.cells {w : World} {B n : Nat} {f : Vot → Option Int} (h : Bkv w B n f) {b o : Nat} {v : Value} (hc : w.cell? ⟨b, o, none⟩ = some v) : b ≠ B := by
  rintro rfl
  obtain ⟨D, ⟨es, clock, hb, _⟩, _⟩ := h
  simp [World.cell?, hb] at hc
def AddE (B i : Nat) (D : List Slt) (w : World) (e : Ending) (w' : World) : Prop := e = .returned (.tuple #[]) ∧ ∃ m'', m'' ≤ (i + 1) * 60 ∧ Bkv w' B m'' (cB D (i + 1) 0) ∧ Mod (fun b => b = B) w w'
set_option maxRecDepth 20000 in
set_option maxHeartbeats 16000000 in
theorem tallyAdd_any (B : Nat) (x : Value) (D : List Slt) (i m' : Nat) (w : World) (hx : sltR.V w x (D.getD i default)) (hid : i < D.length) (hok : SltOk (D.getD i default)) (hBk : Bkv w B m' (cB D i 0)) (hm' : m' ≤ i * 60) (hi9 : i ≤ 9) :
    Calls Try.prog 36 #[.map (some B), x] w (AddE B i D w) := by
  unfold AddE
  obtain ⟨l, hla⟩ : ∃ l, l = D.getD i default := ⟨_, rfl⟩
  rw [← hla] at hx
  have HLa : Hid (l = D.getD i default) := hla
  clear hla
  obtain ⟨sa, rfl, hca⟩ := hx
  obtain ⟨aua, cua, rfl⟩ := vots_form hca
  obtain ⟨_, _, ee, hcc, hmc, hce⟩ := hca
  simp only [Value.slice.injEq, true_and] at ee
  obtain ⟨rfl, rfl⟩ := ee
  unfold maxLen at hmc
  have HOk : Hid (SltOk (D.getD i default)) := hok
  have HIL : Hid (i < D.length) := hid
  have h60 : l.cast.length ≤ 60 := by rw [HLa.out]; exact HOk.out.len
  have HC0 : Hid (l.cast = (D.getD i default).cast) := by show _ = _; rw [← HLa.out]
  obtain ⟨cs, hcs⟩ : ∃ cs, cs = l.cast := ⟨_, rfl⟩
  rw [← hcs] at hcc hce h60 HC0 ⊢
  obtain ⟨m, hm0⟩ : ∃ m, m = cs.length := ⟨_, rfl⟩
  have HM : Hid (cs.length = m) := hm0.symm
  rw [← hm0] at hcc hce h60 ⊢
  clear hm0 hcs hok hid
  have HMB : Hid (∀ b o v, w.cell? ⟨b, o, none⟩ = some v → b ≠ B) := fun b o v hc => hBk.cells hc
  have hBS : B < w.heap.size := hBk.lt
  have HBk0 : Hid (Bkv w B m' (cB D i 0)) := hBk
  clear hBk
  go_enter Try.func36, Try.ntmps36
  go_wp2
  have s0 : (w.alloc (.cells #[.int .i64 l.con, .int .i64 l.sh, .int .i64 l.pr, .int .i64 l.lb, .int .i64 l.lv, .slice aua m cua] 43)).cell? ⟨w.heap.size, 5, none⟩ = some (.slice aua m cua) := by simp [go_sem]
  have hb1 := HBk0.out.below (balloc (Below.refl _ w) (.cells #[.int .i64 l.con, .int .i64 l.sh, .int .i64 l.pr, .int .i64 l.lb, .int .i64 l.lv, .slice aua m cua] 43))
  have hbl1 : Mod (fun b => b = B) w (w.alloc (.cells #[.int .i64 l.con, .int .i64 l.sh, .int .i64 l.pr, .int .i64 l.lb, .int .i64 l.lv, .slice aua m cua] 43)) := (Mod.refl _ w).alloc _
  clear HBk0
  generalize w.alloc (.cells #[.int .i64 l.con, .int .i64 l.sh, .int .i64 l.pr, .int .i64 l.lb, .int .i64 l.lv, .slice aua m cua] 43) = Y0 at *
  generalize w.heap.size = BS at *
  go_loopw [9] (fun kk w' => ∃ k m' : Nat, k ≤ m ∧ kk = .int .i64 k ∧ m' ≤ i * 60 + k ∧ Bkv w' B m' (cB D i k) ∧ w'.cell? ⟨BS, 5, none⟩ = some (.slice aua m cua) ∧ Mod (fun b => b = B) w w') (fun kk _ => m - (intOf kk).toNat)
  case atStart => exact ⟨0, m', Nat.zero_le _, rfl, by omega, hb1, s0, hbl1⟩
  case round =>
    clear s0 hb1 hbl1 hm'
    obtain ⟨k, m', hk, rfl, hm', hBk, s5, hbl⟩ := hrel
    have HBk : Hid (Bkv wr B m' (cB D i k)) := hBk
    clear hBk
    by_cases hkm : k < m
    · obtain ⟨bc, oc, rfl, g1⟩ := hce k hkm
      obtain ⟨v, hv⟩ : ∃ v, v = cs.getD k default := ⟨_, rfl⟩
      rw [← hv] at g1
      have HB : Hid (i < D.length ∧ k < (D.getD i default).cast.length ∧ (D.getD i default).cast.getD k default = v) := ⟨HIL.out, by rw [← HC0.out, HM.out]; exact hkm, by rw [← HC0.out]; exact hv.symm⟩
      have HVt : Hid (votB v = true) := by have := (HOk.out.at_ k HB.out.2.1).1; rw [HB.out.2.2] at this; exact this
      clear hv
      have hbcB : bc ≠ B := HMB.out _ _ _ g1.1
      have a1 := hbl.cell g1.1 hbcB
      have a2 := hbl.cell g1.2 hbcB
      clear g1
      have zbs : BS < wr.heap.size := World.block_lt_of_cell? wr _ s5
      have r0' : (wr.alloc (.cells #[.int .i64 v.bal, .int .i64 v.val] 40)).cell? ⟨wr.heap.size, 0, none⟩ = some (.int .i64 v.bal) := by simp [go_sem]
      have r1' : (wr.alloc (.cells #[.int .i64 v.bal, .int .i64 v.val] 40)).cell? ⟨wr.heap.size, 1, none⟩ = some (.int .i64 v.val) := by simp [go_sem]
      have s5' := cell_keep (balloc (Below.refl _ wr) (.cells #[.int .i64 v.bal, .int .i64 v.val] 40)) s5
      have HBk' : Hid (Bkv (wr.alloc (.cells #[.int .i64 v.bal, .int .i64 v.val] 40)) B m' (cB D i k)) := HBk.out.below (balloc (Below.refl _ wr) (.cells #[.int .i64 v.bal, .int .i64 v.val] 40))
      have hBY : Mod (fun b => b = B) w (wr.alloc (.cells #[.int .i64 v.bal, .int .i64 v.val] 40)) := hbl.alloc _
      cases k with
      | zero =>
        have hnew : ¬ v ∈ (D.getD i default).cast.take 0 := by simp
        have hk0 : (((0 : Nat) : Int) == 0) = true := by simp
        simp only [Nat.zero_mul, Nat.add_zero] at a1 a2
        clear hce
        go_wp2
        generalize wr.alloc (.cells #[.int .i64 v.bal, .int .i64 v.val] 40) = Y at *
        generalize wr.heap.size = BV at *
        clear a1 a2 s5 HBk hbl
        have r0 := r0'
        have r1 := r1'
        have s5 := s5'
        have HBk := HBk'
        clear r0' r1' s5' HBk'
        have zY : BV < Y.heap.size := World.block_lt_of_cell? Y _ r0
        go_quiet (fail)
        go_wp2
        replace r0 := cell_keep (bdrewN (Below.refl _ Y) nq) r0
        replace r1 := cell_keep (bdrewN (Below.refl _ Y) nq) r1
        replace s5 := cell_keep (bdrewN (Below.refl _ Y) nq) s5
        replace HBk : Hid (Bkv (Y.drewN nq) B m' (cB D i 0)) := HBk.out.below (bdrewN (Below.refl _ Y) nq)
        have hBX : Mod (fun b => b = B) w (Y.drewN nq) := hBY.trans (Mod.of_below (bdrewN (Below.refl Y.heap.size Y) nq))
        generalize Y.drewN nq = X at *
        have hc0 := cB_get D i 0 v
        have hcl := cF_le D i 0 v
        obtain ⟨c, hcc⟩ : ∃ c, c = (cB D i 0 v).getD 0 := ⟨_, rfl⟩
        have HCc : Hid (c = (cB D i 0 v).getD 0) := hcc
        rw [← hcc] at hc0
        have hcr : 0 ≤ c ∧ c ≤ 100 := by omega
        obtain ⟨hcr1, hcr2⟩ := hcr
        have HNew : Hid (cB D i (0 + 1) = updV1 (cB D i 0) v (some (c + 1))) := by show _ = _; rw [hcc]; exact cB_new D i 0 v HB.out.2.1 HB.out.2.2 hnew
        clear hcc hc0 hcl hnew
        have hwc : IntKind.i64.wrap (c + 1) = c + 1 := wrapId (by omega) (by omega)
        have hvw : vwf v := vwf_ok HVt.out
        have hzV : BV < X.heap.size := World.block_lt_of_cell? X _ r0
        go_wp2
        refine wp_region_noPanic ?_
        have HLK : ∀ W, Below X.heap.size X W → (Instr.lookup 62 (.map (some B)) (.agg #[.int .i64 v.bal, .int .i64 v.val]) false).run Try.prog W = .ok (.int .i64 c) W := fun W hW => by
          have := ((HBk.out.below hW).look hvw).1
          rw [← HCc.out] at this
          exact this
        refine region_upto (fun W => (W.cell? ⟨BV, 0, none⟩ = some (.int .i64 v.bal) ∧ W.cell? ⟨BV, 1, none⟩ = some (.int .i64 v.val)) ∧ (Instr.lookup 62 (.map (some B)) (.agg #[.int .i64 v.bal, .int .i64 v.val]) false).run Try.prog W = .ok (.int .i64 c) W) 6 (by kernel_rfl) ⟨⟨cell_keep (Below.drew (Below.refl _ _)) r0, cell_keep (Below.drew (Below.refl _ _)) r1⟩, HLK _ (Below.drew (Below.refl _ _))⟩ (fun hS => ?_)
        refine upto_take (i := 0) (v := ?_) rfl (by kernel_rfl) (by kernel_rfl) (by kernel_rfl) (by kernel_rfl) (fun _ _ _ h => h) (by rfl) hS ?_ ?_
        rotate_left
        · intro wS hSw
          try dsimp only at hSw
          first | (go_simp; done) | (go_simp; with_reducible rfl)
        try simp only [Act.put, List.getElem_toArray, List.getElem_cons_zero, List.getElem_cons_succ, List.setIfInBounds_toArray, List.set_cons_zero, List.set_cons_succ]
        refine upto_take (i := 1) (v := ?_) rfl (by kernel_rfl) (by kernel_rfl) (by kernel_rfl) (by kernel_rfl) (fun _ _ _ h => h) (by rfl) hS ?_ ?_
        rotate_left
        · intro wS hSw
          try dsimp only at hSw
          first | (go_simp; done) | (go_simp; with_reducible rfl)
        try simp only [Act.put, List.getElem_toArray, List.getElem_cons_zero, List.getElem_cons_succ, List.setIfInBounds_toArray, List.set_cons_zero, List.set_cons_succ]
        refine upto_take (i := 2) (v := ?_) rfl (by kernel_rfl) (by kernel_rfl) (by kernel_rfl) (by kernel_rfl) (fun _ _ _ h => h) (by rfl) hS ?_ ?_
        rotate_left
        · intro wS hSw
          try dsimp only at hSw
          first | (go_simp; done) | (go_simp; with_reducible rfl)
        try simp only [Act.put, List.getElem_toArray, List.getElem_cons_zero, List.getElem_cons_succ, List.setIfInBounds_toArray, List.set_cons_zero, List.set_cons_succ]
        refine upto_take (i := 3) (v := ?_) rfl (by kernel_rfl) (by kernel_rfl) (by kernel_rfl) (by kernel_rfl) (fun _ _ _ h => h) (by rfl) hS ?_ ?_
        rotate_left
        · intro wS hSw
          try dsimp only at hSw
          first | (go_simp; done) | (go_simp; with_reducible rfl)
        try simp only [Act.put, List.getElem_toArray, List.getElem_cons_zero, List.getElem_cons_succ, List.setIfInBounds_toArray, List.set_cons_zero, List.set_cons_succ]
        obtain ⟨v0, st, w4, hr, hm4, hB4, hst⟩ := (HBk.out.below (Below.drew (Below.refl _ X))).entry2 hvw (by unfold maxLen; omega)
        unfold vv goInt at hr
        unfold goInt at hst
        have hneV : BV ≠ B := by omega
        have hneS : BS ≠ B := by omega
        have hS4 : (fun W => (W.cell? ⟨BV, 0, none⟩ = some (.int .i64 v.bal) ∧ W.cell? ⟨BV, 1, none⟩ = some (.int .i64 v.val)) ∧ (Instr.lookup 62 (.map (some B)) (.agg #[.int .i64 v.bal, .int .i64 v.val]) false).run Try.prog W = .ok (.int .i64 c) W) w4 := ⟨⟨hm4.cell hS.1.1 hneV, hm4.cell hS.1.2 hneV⟩, by
          have e := (hB4.look hvw).1
          rw [updV1_at, ← HCc.out] at e
          exact e⟩
        clear HLK
        refine upto_step (i := 4) (by kernel_rfl) rfl ?_
        intro K hK
        go_simp
        refine hK _ _ (fun _ => hS4) ?_
        clear hK K
        try simp only [Act.put, List.getElem_toArray, List.getElem_cons_zero, List.getElem_cons_succ, List.setIfInBounds_toArray, List.set_cons_zero, List.set_cons_succ]
        refine upto_step (i := 5) (by kernel_rfl) rfl ?_
        intro K hK
        go_simp
        refine hK _ _ (fun _ => hS4) ?_
        clear hK K
        try simp only [Act.put, List.getElem_toArray, List.getElem_cons_zero, List.getElem_cons_succ, List.setIfInBounds_toArray, List.set_cons_zero, List.set_cons_succ]
        obtain ⟨w5, hr5, hB5, hm5⟩ := hst (c + 1) (wfv (by omega) (by omega))
        refine upto_step (i := 6) (by kernel_rfl) rfl ?_
        intro K hK
        go_simp
        refine hK _ _ (fun h => absurd rfl h) ?_
        clear hK K
        refine upto_done (by kernel_rfl) ?_
        refine NoPanic.normal ?_
        have hbl5 : Mod (fun b => b = B) w w5 := (hBX.trans (Mod.of_below (Below.drew (Below.refl X.heap.size X)))).trans hm5
        have s55 := hm5.cell (cell_keep (Below.drew (Below.refl _ X)) s5) hneS
        have HB5 : Hid (Bkv w5 B (m' + 1) (cB D i (0 + 1))) := by show Bkv _ _ _ _; rw [HNew.out]; exact hB5
        clear hS hS4 hr hst hr5 hB5 hB4 hm4 hm5 HBk r0 r1 s5
        go_wp2
        exact ⟨⟨1, m' + 1, by omega, by go_num, by omega, HB5.out, s55, hbl5⟩, by simp [intOf]; omega⟩
      | succ p =>
        obtain ⟨b', o', he', g2⟩ := hce p (by omega)
        simp only [Option.some.injEq, Addr.mk.injEq, and_true] at he'
        obtain ⟨rfl, rfl⟩ := he'
        obtain ⟨u, hu⟩ : ∃ u, u = cs.getD p default := ⟨_, rfl⟩
        rw [← hu] at g2
        have HU : Hid ((D.getD i default).cast.getD p default = u) := by show _ = _; rw [← HC0.out]; exact hu.symm
        clear hu hce
        have d1 := hBY.cell g2.1 hbcB
        have d2 := hBY.cell g2.2 hbcB
        have hk0 : (((p + 1 : Nat) : Int) == 0) = false := by simp; omega
        have i1 : (p : Int) < (m : Int) := by omega
        have w1 : IntKind.i64.wrap (p : Int) = p := wrapId (by omega) (by omega)
        have hiff := in_take HOk.out HB.out.2.1
        rw [HB.out.2.2, HU.out] at hiff
        have Hiff : Hid (v ∈ (D.getD i default).cast.take (p + 1) ↔ v = u) := hiff
        clear hiff g2
        cases he : (decide (v.bal = u.bal) && decide (v.val = u.val))
        · have heq : ∀ w, (binOp .neq 40 (.agg #[.int .i64 v.bal, .int .i64 v.val]) (.agg #[.int .i64 u.bal, .int .i64 u.val])).run Try.prog w = .ok (.bool true) w := fun w => by rw [neqVot, he]; rfl
          have HNw : Hid (¬ v ∈ (D.getD i default).cast.take (p + 1)) := fun h => by rw [vot_eq.2 (Hiff.out.1 h)] at he; cases he
          clear he
          go_wp2
          generalize wr.alloc (.cells #[.int .i64 v.bal, .int .i64 v.val] 40) = Y at *
          generalize wr.heap.size = BV at *
          clear a1 a2 s5 HBk hbl
          have r0 := r0'
          have r1 := r1'
          have s5 := s5'
          have HBk := HBk'
          clear r0' r1' s5' HBk'
          have zY : BV < Y.heap.size := World.block_lt_of_cell? Y _ r0
          have zc : bc < Y.heap.size := World.block_lt_of_cell? Y _ d1
          have zs : BS < Y.heap.size := World.block_lt_of_cell? Y _ s5
          go_quiet (fail)
          go_wp2
          replace r0 := cell_keep (bdrewN (Below.refl _ Y) nq) r0
          replace r1 := cell_keep (bdrewN (Below.refl _ Y) nq) r1
          replace s5 := cell_keep (bdrewN (Below.refl _ Y) nq) s5
          replace HBk : Hid (Bkv (Y.drewN nq) B m' (cB D i (p + 1))) := HBk.out.below (bdrewN (Below.refl _ Y) nq)
          have hBX : Mod (fun b => b = B) w (Y.drewN nq) := hBY.trans (Mod.of_below (bdrewN (Below.refl Y.heap.size Y) nq))
          generalize Y.drewN nq = X at *
          clear d1 d2 heq
          have hnew := HNw.out
          have hc0 := cB_get D i (p + 1) v
          have hcl := cF_le D i (p + 1) v
          obtain ⟨c, hcc⟩ : ∃ c, c = (cB D i (p + 1) v).getD 0 := ⟨_, rfl⟩
          have HCc : Hid (c = (cB D i (p + 1) v).getD 0) := hcc
          rw [← hcc] at hc0
          have hcr : 0 ≤ c ∧ c ≤ 100 := by omega
          obtain ⟨hcr1, hcr2⟩ := hcr
          have HNew : Hid (cB D i (p + 1 + 1) = updV1 (cB D i (p + 1)) v (some (c + 1))) := by show _ = _; rw [hcc]; exact cB_new D i (p + 1) v HB.out.2.1 HB.out.2.2 hnew
          clear hcc hc0 hcl hnew
          have hwc : IntKind.i64.wrap (c + 1) = c + 1 := wrapId (by omega) (by omega)
          have hvw : vwf v := vwf_ok HVt.out
          have hzV : BV < X.heap.size := World.block_lt_of_cell? X _ r0
          go_wp2
          refine wp_region_noPanic ?_
          have HLK : ∀ W, Below X.heap.size X W → (Instr.lookup 62 (.map (some B)) (.agg #[.int .i64 v.bal, .int .i64 v.val]) false).run Try.prog W = .ok (.int .i64 c) W := fun W hW => by
            have := ((HBk.out.below hW).look hvw).1
            rw [← HCc.out] at this
            exact this
          refine region_upto (fun W => (W.cell? ⟨BV, 0, none⟩ = some (.int .i64 v.bal) ∧ W.cell? ⟨BV, 1, none⟩ = some (.int .i64 v.val)) ∧ (Instr.lookup 62 (.map (some B)) (.agg #[.int .i64 v.bal, .int .i64 v.val]) false).run Try.prog W = .ok (.int .i64 c) W) 6 (by kernel_rfl) ⟨⟨cell_keep (Below.drew (Below.refl _ _)) r0, cell_keep (Below.drew (Below.refl _ _)) r1⟩, HLK _ (Below.drew (Below.refl _ _))⟩ (fun hS => ?_)
          refine upto_take (i := 0) (v := ?_) rfl (by kernel_rfl) (by kernel_rfl) (by kernel_rfl) (by kernel_rfl) (fun _ _ _ h => h) (by rfl) hS ?_ ?_
          rotate_left
          · intro wS hSw
            try dsimp only at hSw
            first | (go_simp; done) | (go_simp; with_reducible rfl)
          try simp only [Act.put, List.getElem_toArray, List.getElem_cons_zero, List.getElem_cons_succ, List.setIfInBounds_toArray, List.set_cons_zero, List.set_cons_succ]
          refine upto_take (i := 1) (v := ?_) rfl (by kernel_rfl) (by kernel_rfl) (by kernel_rfl) (by kernel_rfl) (fun _ _ _ h => h) (by rfl) hS ?_ ?_
          rotate_left
          · intro wS hSw
            try dsimp only at hSw
            first | (go_simp; done) | (go_simp; with_reducible rfl)
          try simp only [Act.put, List.getElem_toArray, List.getElem_cons_zero, List.getElem_cons_succ, List.setIfInBounds_toArray, List.set_cons_zero, List.set_cons_succ]
          refine upto_take (i := 2) (v := ?_) rfl (by kernel_rfl) (by kernel_rfl) (by kernel_rfl) (by kernel_rfl) (fun _ _ _ h => h) (by rfl) hS ?_ ?_
          rotate_left
          · intro wS hSw
            try dsimp only at hSw
            first | (go_simp; done) | (go_simp; with_reducible rfl)
          try simp only [Act.put, List.getElem_toArray, List.getElem_cons_zero, List.getElem_cons_succ, List.setIfInBounds_toArray, List.set_cons_zero, List.set_cons_succ]
          refine upto_take (i := 3) (v := ?_) rfl (by kernel_rfl) (by kernel_rfl) (by kernel_rfl) (by kernel_rfl) (fun _ _ _ h => h) (by rfl) hS ?_ ?_
          rotate_left
          · intro wS hSw
            try dsimp only at hSw
            first | (go_simp; done) | (go_simp; with_reducible rfl)
          try simp only [Act.put, List.getElem_toArray, List.getElem_cons_zero, List.getElem_cons_succ, List.setIfInBounds_toArray, List.set_cons_zero, List.set_cons_succ]
          obtain ⟨v0, st, w4, hr, hm4, hB4, hst⟩ := (HBk.out.below (Below.drew (Below.refl _ X))).entry2 hvw (by unfold maxLen; omega)
          unfold vv goInt at hr
          unfold goInt at hst
          have hneV : BV ≠ B := by omega
          have hneS : BS ≠ B := by omega
          have hS4 : (fun W => (W.cell? ⟨BV, 0, none⟩ = some (.int .i64 v.bal) ∧ W.cell? ⟨BV, 1, none⟩ = some (.int .i64 v.val)) ∧ (Instr.lookup 62 (.map (some B)) (.agg #[.int .i64 v.bal, .int .i64 v.val]) false).run Try.prog W = .ok (.int .i64 c) W) w4 := ⟨⟨hm4.cell hS.1.1 hneV, hm4.cell hS.1.2 hneV⟩, by
            have e := (hB4.look hvw).1
            rw [updV1_at, ← HCc.out] at e
            exact e⟩
          clear HLK
          refine upto_step (i := 4) (by kernel_rfl) rfl ?_
          intro K hK
          go_simp
          refine hK _ _ (fun _ => hS4) ?_
          clear hK K
          try simp only [Act.put, List.getElem_toArray, List.getElem_cons_zero, List.getElem_cons_succ, List.setIfInBounds_toArray, List.set_cons_zero, List.set_cons_succ]
          refine upto_step (i := 5) (by kernel_rfl) rfl ?_
          intro K hK
          go_simp
          refine hK _ _ (fun _ => hS4) ?_
          clear hK K
          try simp only [Act.put, List.getElem_toArray, List.getElem_cons_zero, List.getElem_cons_succ, List.setIfInBounds_toArray, List.set_cons_zero, List.set_cons_succ]
          obtain ⟨w5, hr5, hB5, hm5⟩ := hst (c + 1) (wfv (by omega) (by omega))
          refine upto_step (i := 6) (by kernel_rfl) rfl ?_
          intro K hK
          go_simp
          refine hK _ _ (fun h => absurd rfl h) ?_
          clear hK K
          refine upto_done (by kernel_rfl) ?_
          refine NoPanic.normal ?_
          have hbl5 : Mod (fun b => b = B) w w5 := (hBX.trans (Mod.of_below (Below.drew (Below.refl X.heap.size X)))).trans hm5
          have s55 := hm5.cell (cell_keep (Below.drew (Below.refl _ X)) s5) hneS
          have HB5 : Hid (Bkv w5 B (m' + 1) (cB D i (p + 1 + 1))) := by show Bkv _ _ _ _; rw [HNew.out]; exact hB5
          clear hS hS4 hr hst hr5 hB5 hB4 hm4 hm5 HBk r0 r1 s5
          go_wp2
          exact ⟨⟨p + 1 + 1, m' + 1, by omega, by go_num, by omega, HB5.out, s55, hbl5⟩, by simp [intOf]; omega⟩
        · have heq : ∀ w, (binOp .neq 40 (.agg #[.int .i64 v.bal, .int .i64 v.val]) (.agg #[.int .i64 u.bal, .int .i64 u.val])).run Try.prog w = .ok (.bool false) w := fun w => by rw [neqVot, he]; rfl
          have HOld : Hid (cB D i (p + 1 + 1) = cB D i (p + 1)) := cB_old D i (p + 1) v HB.out.2.1 HB.out.2.2 (Hiff.out.2 (vot_eq.1 he))
          clear he
          go_wp2
          generalize wr.alloc (.cells #[.int .i64 v.bal, .int .i64 v.val] 40) = Y at *
          generalize wr.heap.size = BV at *
          clear a1 a2 s5 HBk hbl
          have r0 := r0'
          have r1 := r1'
          have s5 := s5'
          have HBk := HBk'
          clear r0' r1' s5' HBk'
          have zY : BV < Y.heap.size := World.block_lt_of_cell? Y _ r0
          have zc : bc < Y.heap.size := World.block_lt_of_cell? Y _ d1
          have zs : BS < Y.heap.size := World.block_lt_of_cell? Y _ s5
          go_quiet (fail)
          go_wp2
          exact ⟨⟨p + 1 + 1, m', by omega, by go_num, by omega, by rw [HOld.out]; exact HBk.out.below (bdrewN (Below.refl _ Y) _), cell_keep (bdrewN (Below.refl _ Y) _) s5, hBY.trans (Mod.of_below (bdrewN (Below.refl Y.heap.size Y) _))⟩, by simp [intOf]; omega⟩
    · have hkm' : k = m := by omega
      have HBn : Hid (Bkv wr B m' (cB D (i + 1) 0)) := by
        show Bkv _ _ _ _
        rw [← cB_row, ← HC0.out, HM.out, ← hkm']
        exact HBk.out
      subst hkm'
      clear hce
      go_wp2
      refine bodyPost_end (v := .tuple #[]) (by simp [results, Try.results36, go_sem]) rfl ⟨rfl, m', by omega, HBn.out, hbl⟩
end Go.Proofs.Yteppnppknfldbaa

/-
  tally.chosen: those that are so many, put in order.
-/
set_option linter.unusedSimpArgs false
set_option linter.unusedVariables false
namespace Go.Proofs.Yteppnppknfldbaa
open Go.RowKit Go.Maps Go.Sort Go.Shelf
set_option linter.unusedSectionVars false
variable [DecidableEq Vot] [Inhabited Vot] [DecidableEq Slt] [Inhabited Slt] [DecidableEq SltR] [Inhabited SltR] [DecidableEq Bal] [Inhabited Bal] [DecidableEq Ledg] [Inhabited Ledg] [DecidableEq Leg] [Inhabited Leg]
attribute [local go_sem ↓] Go.wp_at_zero Go.wp_at_succ

theorem invVv (v : Value) (y : DataW Unit × List MemPlace) (h : plainElem Try.prog 2 v = some y) : ∃ c : Int, v = (fun c => Value.int .i64 c) c := by
  obtain ⟨c, rfl, _⟩ := plainElem_int_inv Try.underlying2 h
  exact ⟨c, rfl⟩
theorem invKv (key : Value) (kl : Lit) (h : keyOf Try.prog 40 key = some kl) : ∃ x : Int × Int, key = (fun x : Int × Int => Value.agg #[.int .i64 x.1, .int .i64 x.2]) x := by
  obtain ⟨x, rfl, _⟩ := vv_of_key h
  exact ⟨(x.bal, x.val), rfl⟩
set_option maxRecDepth 20000 in
set_option maxHeartbeats 16000000 in
theorem tallyChosen_any (hSV : SortsV) (B m' n : Nat) (D : List Slt) (w : World) (hBk : Bkv w B m' (cB D n 0)) (hm' : m' ≤ n * 60) (hD0 : D.length = n) (hok1 : AllOk D) (h19 : inB (n : Int) 1 9 = true) :
    Calls Try.prog 37 #[.map (some B), .int .i64 n] w fun e w' => ChE D w e w' := by
  have hok : Hid (AllOk D) := hok1
  have HSV : Hid SortsV := hSV
  have HN : Hid (D.length = n) := hD0
  have HBk : Hid (Bkv w B m' (cB D n 0)) := hBk
  have hn9 : 1 ≤ n ∧ n ≤ 9 := by have := inBi.1 h19; omega
  have hbl : Below w.heap.size w w := Below.refl _ _
  have hBw : B < w.heap.size := hBk.lt
  clear hok1 hSV hD0 hBk
  go_enter Try.func37, Try.ntmps37
  have hq0 : ∃ q, quoR (n : Int) = q ∧ quoV (n : Int) = q ∧ 1 ≤ q := ⟨_, rfl, by unfold quoR; rw [h19, if_pos rfl], by unfold quoR quoV; rw [h19, if_pos rfl]; omega⟩
  obtain ⟨q, hq1, hq2, hq3⟩ := hq0
  have HQ : Hid (quoV (n : Int) = q) := hq2
  have hcon := implQuorum_any (n : Int)
  rw [hq1] at hcon
  clear hq1 hq2
  obtain ⟨qc, hqc⟩ : ∃ qc, qc = quoC (n : Int) := ⟨_, rfl⟩
  rw [← hqc] at hcon
  clear hqc
  have hfl : ∀ w, (Instr.field 36 (.agg #[.int .i64 qc, .int .i64 q]) 1).run Try.prog w = .ok (.int .i64 q) w := fun _ => by kernel_rfl
  go_wp2_with fail
  refine (hcon _).mono ?_
  rintro e w1 ⟨rfl, hb1⟩
  have hB1 : Below w.heap.size w w1 := bstep hbl hb1
  have hz1 : B < w1.heap.size := (HBk.out.below hb1).lt
  have hz1w : w.heap.size ≤ w1.heap.size := hb1.size
  obtain ⟨DM, hD, h1⟩ := HBk.out.below hb1
  have H1 : Hid (∀ x kl, keyOf Try.prog 40 (vv x) = some kl → Maps.has DM kl = (cB D n 0 x).isSome ∧ DM.atKey kl (.lit (.int .i64 0)) = .lit (.int .i64 ((cB D n 0 x).getD 0))) := h1
  have hsl := hD.size_le
  have HWf : Hid (∀ v, (cB D n 0 v).isSome = true → vwf v) := fun v h => by
    rw [cB_some, cF_zero] at h
    obtain ⟨t, ht, hp⟩ := cntP_pos _ _ (Nat.pos_of_ne_zero h)
    obtain ⟨j, hj, e⟩ := getD_of_mem (hasV_iff.1 hp)
    have := ((hok.out t (by rw [HN.out]; exact ht)).at_ j hj).1
    rw [e] at this
    exact vwf_ok this
  have HC0 : Hid (Came (cB D n 0) q (Maps.has DM) []) := came_v0 HWf.out H1.out
  clear h1 hcon hb1 hbl HBk
  go_wp2_with (first
    | (at_range; refine wpList_range_own _ rfl _ 62 rfl 40 2 votLaw Try.underlying62 _ B m' DM rfl hD ?_; intro w0 hrg0 hg0 hs0)
    | go_in)
  go_frame
  have hB0 : Below w.heap.size w w0 := hB1.grown hg0 hB1.size (fun k e => by cases e)
  clear hg0 hD
  go_loopw [6] (fun u wr => ∃ (left : Lit → Bool) (cnt : Nat) (xs : List Vot), (∃ a c, u = .slice a xs.length c) ∧ (∃ F, votsR.O wr (w1.heap.size + 1) F u xs) ∧ Came (cB D n 0) q left xs ∧ xs.length + cnt ≤ 600 ∧ wr.ranges (H := Unit) Try.prog 40 (plainElem Try.prog 2) B w1.heap.size m' DM left cnt ∧ Below w.heap.size w wr) (fun _ wr => wr.rangeLeft B w1.heap.size)
  case atStart => exact ⟨_, _, [], ⟨none, 0, rfl⟩, ⟨_, vots_nil _ _⟩, HC0.out, by simp; omega, hrg0, hB0⟩
  case round =>
    clear hrg0 hB0 HC0
    obtain ⟨left, cnt, xs, ⟨au, cu, rfl⟩, ⟨F, ho⟩, hcm, hlen, hrg, hbl⟩ := hrel
    have HCm : Hid (Came (cB D n 0) q left xs) := hcm
    have HO : Hid (votsR.O wr (w1.heap.size + 1) F (.slice au xs.length cu) xs) := ho
    have hrl := hrg.lt
    clear hcm ho
    obtain ⟨Lx, hLx⟩ : ∃ L, L = xs.length := ⟨_, rfl⟩
    have HLx : Hid (xs.length = Lx) := hLx.symm
    rw [← hLx] at hlen HO ⊢
    clear hLx
    go_wp2_with (first
      | (at_next; refine wpList_next_ranges _ rfl _ rfl 40 votLaw _ (fun x : Int × Int => Value.agg #[.int .i64 x.1, .int .i64 x.2]) (fun c : Int => Value.int .i64 c) invKv invVv B w1.heap.size m' DM left cnt rfl hrg ?_ ?_)
      | go_in)
    · intro _ hl0
      have HMem : Hid (∀ v, v ∈ xs ↔ isCh D v) := fun v => by
        rw [came_end8 HCm.out hl0, cB_some, cB_get]
        have e : cF D n 0 v = cntV D v := by rw [← cB_end, HN.out]
        unfold isCh
        rw [e, HN.out, HQ.out]
        omega
      rcases HO.out.1.2 with ⟨hnil, hx0⟩ | ⟨g, cap, cur, hsm, _⟩
      · rw [HLx.out] at hx0
        simp only [Value.slice.injEq] at hnil
        obtain ⟨rfl, _, rfl⟩ := hnil
        subst hx0
        have HE : Hid (xs = []) := List.eq_nil_of_length_eq_zero HLx.out
        go_wp2_with fail
        refine (HSV.out.none_ _).mono ?_
        rintro e w5 ⟨rfl, hw5⟩
        obtain rfl := hw5.symm
        go_wp2
        go_ret
        refine ⟨_, [], rfl, votsR.ofO (vots_nil _ 0), ⟨by simp [Rise], fun v => ?_⟩, hbl⟩
        rw [← HMem.out v, HE.out]
      · rw [HLx.out] at hsm
        simp only [Value.slice.injEq, true_and] at hsm
        obtain ⟨rfl, rfl⟩ := hsm
        have hown := HO.out.1
        have hcp : Lx ≤ cu ∧ cu ≤ maxLen := by
          rcases hown.2 with ⟨h, _⟩ | ⟨_, _, _, h, _, _, h1, h2, _⟩
          · cases h
          · simp only [Value.slice.injEq] at h
            have := HLx.out
            omega
        have hcon := HSV.out.some_ xs g cu (w1.heap.size + 1) wr (by rw [HLx.out] at hown ⊢; exact hown) (by omega) (by rw [HLx.out]; omega)
        rw [HLx.out] at hcon
        clear hown
        go_wp2_with fail
        refine hcon.mono ?_
        rintro e w5 ⟨rfl, ys, hp, hs, hk, hb5⟩
        have hB5 : Below w.heap.size w w5 := hbl.trans (hb5.mono (by omega))
        have HY : Hid (∀ i, i < ys.length → votCells w5 g (i * 2) (ys.getD i default)) := hk
        have HP : Hid (ys.Perm xs) := hp
        have HS : Hid (ys.Pairwise (fun p q => ¬ q.bal < p.bal)) := hs.imp (fun h hlt => by rw [(ltV_iff _ _).2 hlt] at h; cases h)
        have hly : ys.length = Lx := by rw [hp.length_eq]; exact HLx.out
        have HLy : Hid (ys.length = Lx) := hly
        clear hcon hk hp hs hly
        go_wp2
        go_ret
        refine ⟨.slice (some ⟨g, 0, none⟩) Lx cu, ys, rfl, ⟨some ⟨g, 0, none⟩, cu, by rw [HLy.out], by rw [HLy.out]; exact hcp.1, hcp.2, fun i hi => ⟨g, 0, rfl, by rw [Nat.zero_add]; exact HY.out i hi⟩⟩, chs_sorted hok.out HCm.out.nodup HMem.out HP.out (HS.out.imp (fun h => by omega)), hB5⟩
    · intro xb xv c kl y1 y2 w4 cnt1 hk hlk hv hat hrg1 hlt hg1 hs1 hen
      obtain ⟨c', ec, ey, hwc⟩ := plainElem_int_inv Try.underlying2 hv
      simp only [Value.int.injEq, true_and] at ec
      subst ec
      simp only [Prod.mk.injEq] at ey
      obtain ⟨rfl, rfl⟩ := ey
      have hat0 := hat (.lit (.int .i64 0))
      obtain ⟨q1, q2⟩ := H1.out ⟨xb, xv⟩ kl hk
      rw [hat0] at q2
      simp only [DataW.lit.injEq, Lit.int.injEq, true_and] at q2
      have hsome : (cB D n 0 ⟨xb, xv⟩).isSome = true := by rw [← q1]; exact has_true_of_atKey hat
      have HQ2 : Hid (c = (cB D n 0 ⟨xb, xv⟩).getD 0) := q2
      have HSm : Hid ((cB D n 0 ⟨xb, xv⟩).isSome = true) := hsome
      have HK : Hid (keyOf Try.prog 40 (vv ⟨xb, xv⟩) = some kl ∧ left kl = true) := ⟨hk, hlk⟩
      have hB4 : Below w.heap.size w w4 := hbl.grown hg1 hbl.size (fun k e => by cases e; omega)
      have HO4 : Hid (votsR.O w4 (w1.heap.size + 1) F (.slice au Lx cu) xs) := votsR.mod HO.out (Mod.of_grown hg1) (fun b hb e => by have := (votsR.rng HO.out b hb).1; simp at e; omega)
      clear hk hlk hat hat0 q1 q2 hsome hv hg1 HO
      by_cases hqc : q ≤ c
      · have HCn : Hid (Came (cB D n 0) q (fun z => left z && !z.sameKey kl) (xs ++ [⟨xb, xv⟩])) := came_add HCm.out HK.out.1 HK.out.2 HSm.out (by rw [← HQ2.out]; exact hqc)
        go_wp2_with (at_builtin; refine wpList_appV _ rfl _ _ rfl (w1.heap.size + 1) _ xs rfl _ [⟨xb, xv⟩] rfl (votsR.alloc (votsR.alloc HO4.out _) _).1 ?c0 ?c1 ?c2 ?_)
        case c0 => exact appAny_vot (g := wr.heap.size + 1) (l := ⟨xb, xv⟩) (by rw [← hs1]; simp [go_sem]) (by rw [← hs1]; simp [go_sem])
        case c1 => rw [HLx.out]; simp; omega
        case c2 => simp; omega
        intro v9 w9 o9 hg9 hb9
        obtain ⟨a9, c9, rfl⟩ := owns_form o9
        have hnb : ∀ b, (Value.slice au Lx cu).ownBlock = some b → w1.heap.size + 1 ≤ b := fun b hb => (HO4.out.1.lt b hb).1
        have hrg9 := ((hrg1.alloc (.cells #[.int .i64 xb, .int .i64 xv] 40)).alloc (.cells #[.int .i64 xb, .int .i64 xv] 40)).kept hg9 (fun e => by have := hnb _ e.symm; omega) (fun e => by have := hnb _ e.symm; omega)
        have hB9 : Below w.heap.size w w9 := Below.trans (balloc (balloc hB4 _) _) ((hb9 _ (Below.refl _ _)).mono (by omega))
        have o9' : ∃ F', votsR.O w9 (w1.heap.size + 1) F' (.slice a9 (xs.length + 1) c9) (xs ++ [⟨xb, xv⟩]) := ⟨_, by rw [List.length_append]; exact o9, rfl⟩
        have hl9 : (xs ++ [(⟨xb, xv⟩ : Vot)]).length = Lx + 1 := by rw [List.length_append, HLx.out]; rfl
        clear o9 hg9 hb9 hrg1
        rw [HLx.out] at o9' ⊢
        go_wp2
        refine ⟨⟨_, cnt1, xs ++ [⟨xb, xv⟩], ⟨a9, c9, by rw [hl9]⟩, o9', HCn.out, by rw [hl9]; omega, hrg9, hB9⟩, by rw [hrg9.left_eq, hrg.left_eq]; exact hlt⟩
      · have HCn : Hid (Came (cB D n 0) q (fun z => left z && !z.sameKey kl) xs) := came_pass HCm.out HK.out.1 (by rw [← HQ2.out]; exact hqc)
        go_wp2
        exact ⟨⟨_, cnt1, xs, ⟨au, cu, by rw [HLx.out]⟩, ⟨F, Rep.alloc _ HO4.out _⟩, HCn.out, by rw [HLx.out]; omega, hrg1.alloc _, by (repeat (first | refine bset ?_ (by simp; omega) _ | refine bset ?_ (by simp) _ | refine balloc ?_ _ | assumption))⟩, by rw [(hrg1.alloc _).left_eq, hrg.left_eq]; exact hlt⟩
end Go.Proofs.Yteppnppknfldbaa

/-
  ChosenAt, the program's.
-/
set_option linter.unusedSimpArgs false
set_option linter.unusedVariables false
namespace Go.Proofs.Yteppnppknfldbaa
open Go.RowKit Go.Maps
set_option linter.unusedSectionVars false
variable [DecidableEq Vot] [Inhabited Vot] [DecidableEq Slt] [Inhabited Slt] [DecidableEq SltR] [Inhabited SltR] [DecidableEq Bal] [Inhabited Bal] [DecidableEq Ledg] [Inhabited Ledg] [DecidableEq Leg] [Inhabited Leg] [DecidableEq Acc] [Inhabited Acc] [DecidableEq AccR] [Inhabited AccR] [DecidableEq AccsR] [Inhabited AccsR] [DecidableEq SltsR] [Inhabited SltsR]
attribute [local go_sem ↓] Go.wp_at_zero Go.wp_at_succ

def MostE (B : Nat) (ys : List Vot) (w : World) (e : Ending) (w' : World) : Prop := e = .returned (.int .i64 (hdV ys)) ∧ (∃ m f, m ≤ 600 ∧ Bkv w' B m f) ∧ Mod (fun b => b = B) w w'
set_option maxRecDepth 20000 in
set_option maxHeartbeats 8000000 in
theorem most_any (hSV : SortsV) (B : Nat) (x : Value) (p2 : Option Addr) (q2 : Nat) (l : List Acc) (c s : Int) (ys : List Vot) (w0 w : World) (hx : accsR.V w0 x l) (hb0 : Below w0.heap.size w0 w) (hB0 : w0.heap.size ≤ B) (hl : ListOk l) (hid : idOk c s = true) (hys : Chs (slotsL l c s) ys)
    (hv : sltR.V w0 (.agg #[.int .i64 c, .int .i64 s, .int .i64 (-1), .int .i64 (-1), .int .i64 0, .slice p2 0 q2]) (freS c s)) (hBk : Bkv w B 0 (fun _ => none)) :
    Calls Try.prog 21 #[.map (some B), x, .agg #[.int .i64 c, .int .i64 s, .int .i64 (-1), .int .i64 (-1), .int .i64 0, .slice p2 0 q2]] w (MostE B ys w) := by
  have HV : Hid (∀ W, sltR.V W (.agg #[.int .i64 c, .int .i64 s, .int .i64 (-1), .int .i64 (-1), .int .i64 0, .slice p2 0 q2]) (freS c s)) := fun W => freS_V hv W
  have HSV : Hid SortsV := hSV
  have hok : Hid (AllOk (slotsL l c s)) := chs_slots hl hid
  have HU : Hid (∀ zs, Chs (slotsL l c s) zs → zs = ys) := fun zs h => chs_unique h hys
  have HOk : Hid (∀ k, k < l.length → AccOk (l.getD k default).slots) := fun k hk => accOk_of (hl.ok k hk)
  have HLn : Hid ((slotsL l c s).length = l.length) := slotsL_len l c s
  have HAt : Hid (∀ k, k < l.length → (slotsL l c s).getD k default = slotO (l.getD k default).slots (freS c s)) := fun k hk => slotsL_at l c s hk
  have hlo := hl.lo
  have hhi := hl.hi
  have h19 : inB (l.length : Int) 1 9 = true := inBi.2 (by omega)
  obtain ⟨a, cx, rfl, hcx, hmx, hx⟩ := accs_at hx
  unfold maxLen at hmx
  have hXs : Hid (∀ k, k < l.length → ∃ b o p q, a = some ⟨b, o, none⟩ ∧ w0.cell? ⟨b, o + k, none⟩ = some (.slice p (l.getD k default).slots.length q) ∧ accR.V w0 (.agg #[.slice p (l.getD k default).slots.length q]) (l.getD k default)) := hx
  clear hx hv hSV hl hys hid
  obtain ⟨n, hn'⟩ : ∃ n, n = l.length := ⟨_, rfl⟩
  rw [← hn'] at hcx hXs HOk HLn HAt hlo hhi h19 ⊢
  clear hn'
  obtain ⟨D, hD⟩ : ∃ D, D = slotsL l c s := ⟨_, rfl⟩
  rw [← hD] at hok HU HLn HAt
  clear hD
  rw [← cB_start D] at hBk
  have hBw : B < w.heap.size := hBk.lt
  have HBk0 : Hid (Bkv w B 0 (cB D 0 0)) := hBk
  clear hBk
  go_enter Try.func21, Try.ntmps21
  go_wp2
  go_loopw [12] (fun ii w' => ∃ i m' : Nat, i ≤ n ∧ ii = .int .i64 i ∧ m' ≤ i * 60 ∧ Bkv w' B m' (cB D i 0) ∧ (w'.cell? ⟨w.heap.size, 0, none⟩ = some (.int .i64 c) ∧ w'.cell? ⟨w.heap.size, 1, none⟩ = some (.int .i64 s) ∧ w'.cell? ⟨w.heap.size, 2, none⟩ = some (.int .i64 (-1)) ∧ w'.cell? ⟨w.heap.size, 3, none⟩ = some (.int .i64 (-1)) ∧ w'.cell? ⟨w.heap.size, 4, none⟩ = some (.int .i64 0) ∧ w'.cell? ⟨w.heap.size, 5, none⟩ = some (.slice p2 0 q2)) ∧ Mod (fun b => b = B) w w') (fun ii _ => n - (intOf ii).toNat)
  case atStart => exact ⟨0, 0, Nat.zero_le _, rfl, by omega, HBk0.out.below (by (repeat (first | exact Below.refl _ _ | assumption | refine Below.drew ?_ | refine balloc ?_ _ | refine bset ?_ (by simp; omega) _ | refine bset ?_ (by simp) _ | refine bstep ?_ (by assumption)))), by simp [go_sem], (Mod.refl _ w).alloc _⟩
  case round =>
    clear HBk0
    obtain ⟨i, m', hi, rfl, hm', hBk, ⟨t0, t1, t2, t3, t4, t5⟩, hmod⟩ := hrel
    have HBk : Hid (Bkv wr B m' (cB D i 0)) := hBk
    clear hBk
    have hb0r : Below w0.heap.size w0 wr := hmod.below hb0 hb0.size (fun b hb => by omega)
    have zt : w.heap.size < wr.heap.size := World.block_lt_of_cell? wr _ t0
    by_cases hlt : i < n
    · obtain ⟨b, o, p, q, rfl, hc, hV⟩ := hXs.out i hlt
      have hcr := cell_keep hb0r hc
      have zb : b < wr.heap.size := World.block_lt_of_cell? wr _ hcr
      have HSo : Hid (∀ W, Below wr.heap.size wr W → Calls Try.prog 20 #[.agg #[.slice p (l.getD i default).slots.length q], .agg #[.int .i64 c, .int .i64 s, .int .i64 (-1), .int .i64 (-1), .int .i64 0, .slice p2 0 q2]] W fun e w' => ∃ v, e = .returned v ∧ sltR.V w' v (D.getD i default) ∧ Below W.heap.size W w') := fun W hW => by
        rw [HAt.out i hlt]
        exact slotOr_any _ _ (l.getD i default) (freS c s) W (accR.below hV (bstep hb0r hW)) (HV.out W) (HOk.out i hlt)
      have HAdd : Hid (∀ W v, Below wr.heap.size wr W → sltR.V W v (D.getD i default) → Calls Try.prog 36 #[.map (some B), v] W (AddE B i D W)) := fun W v hW hv => tallyAdd_any B v D i m' W hv (by rw [HLn.out]; exact hlt) (hok.out i (by rw [HLn.out]; exact hlt)) (HBk.out.below hW) hm' (by omega)
      clear hc hV
      generalize (l.getD i default).slots.length = m at *
      go_wp2_with fail
      refine (HSo.out _ (by (repeat (first | exact Below.refl _ _ | assumption | refine Below.drew ?_ | refine balloc ?_ _ | refine bset ?_ (by simp; omega) _ | refine bset ?_ (by simp) _ | refine bstep ?_ (by assumption))))).mono ?_
      rintro e w2 ⟨v2, rfl, hv2, hb2⟩
      have hB2 : Below wr.heap.size wr w2 := by (repeat (first | exact Below.refl _ _ | assumption | refine Below.drew ?_ | refine balloc ?_ _ | refine bset ?_ (by simp; omega) _ | refine bset ?_ (by simp) _ | refine bstep ?_ (by assumption)))
      have HA2 : Hid (Calls Try.prog 36 #[.map (some B), v2] w2 (AddE B i D w2)) := HAdd.out w2 v2 hB2 hv2
      clear hb2 hv2 HSo HAdd HBk hcr
      go_wp2_with fail
      refine HA2.out.mono ?_
      rintro e w3 ⟨rfl, m3, hm3, hB3, hmod3⟩
      have hz2 := hB2.size
      have hne : w.heap.size ≠ B := by omega
      replace t0 := hmod3.cell (cell_keep hB2 t0) hne
      replace t1 := hmod3.cell (cell_keep hB2 t1) hne
      replace t2 := hmod3.cell (cell_keep hB2 t2) hne
      replace t3 := hmod3.cell (cell_keep hB2 t3) hne
      replace t4 := hmod3.cell (cell_keep hB2 t4) hne
      replace t5 := hmod3.cell (cell_keep hB2 t5) hne
      have hmod4 : Mod (fun b => b = B) w w3 := (hmod.trans (Mod.of_below hB2)).trans hmod3
      have HB3 : Hid (Bkv w3 B m3 (cB D (i + 1) 0)) := hB3
      clear hB3 hmod3 hmod hB2 HA2
      go_wp2
      exact ⟨⟨i + 1, m3, by omega, by go_num, hm3, HB3.out, ⟨t0, t1, t2, t3, t4, t5⟩, hmod4⟩, by simp [intOf]; omega⟩
    · have hin : i = n := by omega
      subst hin
      have HCh : Hid (Calls Try.prog 37 #[.map (some B), .int .i64 i] wr fun e w' => ChE D wr e w') := tallyChosen_any HSV.out B m' i D wr HBk.out hm' HLn.out hok.out h19
      clear t0 t1 t2 t3 t4 t5
      go_wp2_with fail
      refine HCh.out.mono ?_
      rintro e w2 ⟨v2, zs, rfl, hv2, hz, hb2⟩
      obtain rfl := HU.out zs hz
      have hmod2 : Mod (fun b => b = B) w w2 := hmod.trans (Mod.of_below hb2)
      have HB2 : Hid (∃ m f, m ≤ 600 ∧ Bkv w2 B m f) := ⟨m', _, by omega, HBk.out.below hb2⟩
      clear hz hb2 HCh hmod HBk
      obtain ⟨a2, c2, rfl, hc2, hm2, hv2⟩ := hv2
      unfold maxLen at hm2
      by_cases h0 : zs.length = 0
      · have HR : Hid (hdV zs = 0) := by show _ = _; unfold hdV; rw [if_pos h0]
        rw [h0]
        clear hv2
        go_wp2
        go_ret
        exact ⟨by rw [HR.out]; rfl, HB2.out, hmod2⟩
      · have HR : Hid (hdV zs = (zs.getD 0 default).val) := by show _ = _; unfold hdV; rw [if_neg h0]
        obtain ⟨b, o, rfl, g⟩ := hv2 0 (by omega)
        simp only [Nat.zero_mul, Nat.add_zero] at g
        have g1 := g.1
        have g2 := g.2
        clear g hv2
        generalize (zs.getD 0 default).val = y at *
        generalize (zs.getD 0 default).bal = y' at *
        generalize zs.length = m at *
        have h0' : ((m : Int) == 0) = false := by simp; omega
        have i0 : (0 : Int) < m := by omega
        go_wp2
        go_ret
        exact ⟨by rw [HR.out]; rfl, HB2.out, hmod2⟩
set_option maxHeartbeats 4000000 in
theorem implChosenAt_any (hSV : SortsV) (x : Value) (l : List Acc) (c s : Int) (ys : List Vot) (w : World) (hx : accsR.V w x l) (hys : freC l c s = 0 → Chs (slotsL l c s) ys) :
    Calls Try.prog 9 #[x, .int .i64 c, .int .i64 s] w fun e w' => e = .returned (.agg #[.int .i64 (chC l c s ys), .int .i64 (chR l c s ys)]) ∧ Below w.heap.size w w' := by
  have HFr : Hid (∀ W, Below w.heap.size w W → Calls Try.prog 11 #[x, .int .i64 c, .int .i64 s] W (FreE l c s W)) := fun W hW => freshFor_u x l c s W (accsR.below hx hW)
  have HMo : Hid (∀ B W0 W p2 q2, Below w.heap.size w W0 → Below W0.heap.size W0 W → W0.heap.size ≤ B → freC l c s = 0 → sltR.V W0 (.agg #[.int .i64 c, .int .i64 s, .int .i64 (-1), .int .i64 (-1), .int .i64 0, .slice p2 0 q2]) (freS c s) → Bkv W B 0 (fun _ => none) → Calls Try.prog 21 #[.map (some B), x, .agg #[.int .i64 c, .int .i64 s, .int .i64 (-1), .int .i64 (-1), .int .i64 0, .slice p2 0 q2]] W (MostE B ys W)) := fun B W0 W p2 q2 h0 h1 h2 h3 h4 h5 => most_any hSV B x p2 q2 l c s ys W0 W (accsR.below hx h0) h1 h2 (listOk_of (freC_ok h3).1) (freC_ok h3).2 (hys h3) h4 h5
  obtain ⟨a, cx, rfl⟩ := accs_form hx
  clear hx hys hSV
  generalize l.length = n at *
  go_enter Try.func9, Try.ntmps9
  go_wp2_with fail
  refine (HFr.out _ (by (repeat (first | exact Below.refl _ _ | assumption | refine Below.drew ?_ | refine balloc ?_ _ | refine bset ?_ (by simp; omega) _ | refine bset ?_ (by simp) _ | refine bstep ?_ (by assumption))))).mono ?_
  rintro e w1 ⟨hE0, hE1⟩
  by_cases hf : freC l c s = 0
  rotate_left
  · obtain ⟨rfl, hb1⟩ := hE1 hf
    have HC1 : Hid (chC l c s ys = freC l c s) := by show _ = _; unfold chC; rw [if_neg hf]
    have HC2 : Hid (chR l c s ys = 0) := by show _ = _; unfold chR; rw [if_neg hf]
    have hB1 : Below w.heap.size w w1 := by (repeat (first | exact Below.refl _ _ | assumption | refine Below.drew ?_ | refine balloc ?_ _ | refine bset ?_ (by simp; omega) _ | refine bset ?_ (by simp) _ | refine bstep ?_ (by assumption)))
    have hz1 := hb1.size
    simp at hz1
    obtain ⟨c1, f1⟩ := bcell hb1
    have r0 : w1.cell? ⟨w.heap.size, 0, none⟩ = some (.int .i64 0) := cell_keep hb1 (by simp [go_sem])
    have r1 : w1.cell? ⟨w.heap.size, 1, none⟩ = some (.int .i64 0) := cell_keep hb1 (by simp [go_sem])
    have rf : ∀ o, w1.frozen? ⟨w.heap.size, o, none⟩ = false := fun o => by rw [f1 _ _ (by simp; try omega)]; simp [go_sem]
    clear hb1 c1 f1 hE0 hE1 HFr HMo
    have zr : w.heap.size < w1.heap.size := World.block_lt_of_cell? w1 _ r0
    generalize freC l c s = g at *
    have hg' : (g != 0) = true := by simp [hf]
    go_wp2
    exact bodyPost_ret (v := .agg #[.int .i64 g, .int .i64 0]) (by simp [results, Try.results9, go_sem, r0, r1, rf, zr, Nat.ne_of_lt zr]) rfl ⟨by rw [HC1.out, HC2.out], by (repeat (first | refine bset ?_ (by simp; omega) _ | refine bset ?_ (by simp) _ | refine balloc ?_ _ | assumption))⟩
  obtain ⟨p2, q2, F2, rfl, o2, hb1⟩ := hE0 hf
  have HC1 : Hid (chC l c s ys = if hdV ys = 0 then 4 else 0) := by show _ = _; unfold chC; rw [if_pos hf]
  have HC2 : Hid (chR l c s ys = hdV ys) := by show _ = _; unfold chR; rw [if_pos hf]
  have hB1 : Below w.heap.size w w1 := by (repeat (first | exact Below.refl _ _ | assumption | refine Below.drew ?_ | refine balloc ?_ _ | refine bset ?_ (by simp; omega) _ | refine bset ?_ (by simp) _ | refine bstep ?_ (by assumption)))
  have hz1 := hb1.size
  simp at hz1
  obtain ⟨c1, f1⟩ := bcell hb1
  have r0 : w1.cell? ⟨w.heap.size, 0, none⟩ = some (.int .i64 0) := cell_keep hb1 (by simp [go_sem])
  have r1 : w1.cell? ⟨w.heap.size, 1, none⟩ = some (.int .i64 0) := cell_keep hb1 (by simp [go_sem])
  have rf : ∀ o, w1.frozen? ⟨w.heap.size, o, none⟩ = false := fun o => by rw [f1 _ _ (by simp; try omega)]; simp [go_sem]
  have HM1 : Hid (∀ B W, Below w1.heap.size w1 W → w1.heap.size ≤ B → Bkv W B 0 (fun _ => none) → Calls Try.prog 21 #[.map (some B), .slice a n cx, .agg #[.int .i64 c, .int .i64 s, .int .i64 (-1), .int .i64 (-1), .int .i64 0, .slice p2 0 q2]] W (MostE B ys W)) := fun B W h1 h2 h3 => HMo.out B w1 W p2 q2 hB1 h1 h2 hf (sltR.ofO o2) h3
  clear hb1 c1 f1 hE0 hE1 HFr HMo o2 hf
  have zr : w.heap.size < w1.heap.size := World.block_lt_of_cell? w1 _ r0
  have hmm := @run_makeMap Try.prog
  go_wp2_with fail
  refine (HM1.out _ _ ?b1 ?b2 ?b3).mono ?_
  case b1 => (repeat (first | exact Below.refl _ _ | assumption | refine Below.drew ?_ | refine balloc ?_ _ | refine bset ?_ (by simp; omega) _ | refine bset ?_ (by simp) _ | refine bstep ?_ (by assumption)))
  case b2 => simp
  case b3 =>
    have h := bkv_made (w1.alloc (.cells #[.int .i64 0, .int .i64 0, .int .i64 0, .int .i64 c, .int .i64 s, .int .i64 (-1), .int .i64 (-1), .int .i64 0, .slice p2 0 q2] 45))
    simpa using h
  rintro e w2 ⟨rfl, _, hmod⟩
  have hB2 : Below w.heap.size w w2 := hmod.below (by (repeat (first | exact Below.refl _ _ | assumption | refine Below.drew ?_ | refine balloc ?_ _ | refine bset ?_ (by simp; omega) _ | refine bset ?_ (by simp) _ | refine bstep ?_ (by assumption)))) (by simp; omega) (fun b hb => by omega)
  have hbb : Below w1.heap.size w1 ((w1.alloc (.cells #[.int .i64 0, .int .i64 0, .int .i64 0, .int .i64 c, .int .i64 s, .int .i64 (-1), .int .i64 (-1), .int .i64 0, .slice p2 0 q2] 45)).alloc (.map #[] 0)) := by (repeat (first | exact Below.refl _ _ | assumption | refine Below.drew ?_ | refine balloc ?_ _ | refine bset ?_ (by simp; omega) _ | refine bset ?_ (by simp) _ | refine bstep ?_ (by assumption)))
  have hne : ¬ w.heap.size = w1.heap.size + 1 := by omega
  replace r0 := hmod.cell (cell_keep hbb r0) hne
  replace r1 := hmod.cell (cell_keep hbb r1) hne
  replace rf : ∀ o, w2.frozen? ⟨w.heap.size, o, none⟩ = false := fun o => (World.frozen?_of_block (hmod.block w.heap.size (by simp; omega) hne)).trans (by rw [(bcell hbb).2 _ _ zr]; exact rf o)
  clear hmod HM1 hmm hbb
  generalize hdV ys = g at *
  by_cases hg : g = 0
  · have h4 : Hid (chC l c s ys = 4) := by show _ = _; rw [HC1.out, if_pos hg]
    subst hg
    go_wp2
    exact bodyPost_ret (v := .agg #[.int .i64 4, .int .i64 0]) (by simp [results, Try.results9, go_sem, r0, r1, rf]) rfl ⟨by rw [h4.out, HC2.out], by (repeat (first | refine bset ?_ (by simp; omega) _ | refine bset ?_ (by simp) _ | refine balloc ?_ _ | assumption))⟩
  · have h4 : Hid (chC l c s ys = 0) := by show _ = _; rw [HC1.out, if_neg hg]
    have hg' : (g == 0) = false := by simp [hg]
    go_wp2
    exact bodyPost_ret (v := .agg #[.int .i64 0, .int .i64 g]) (by simp [results, Try.results9, go_sem, r0, r1, rf]) rfl ⟨by rw [h4.out, HC2.out], by (repeat (first | refine bset ?_ (by simp; omega) _ | refine bset ?_ (by simp) _ | refine balloc ?_ _ | assumption))⟩
end Go.Proofs.Yteppnppknfldbaa

/-
  chosenVotes, the program's.
-/
set_option linter.unusedSimpArgs false
set_option linter.unusedVariables false
namespace Go.Proofs.Yteppnppknfldbaa
open Go.RowKit Go.Maps Go.Sort Go.Shelf
set_option linter.unusedSectionVars false
variable [DecidableEq Vot] [Inhabited Vot] [DecidableEq Slt] [Inhabited Slt] [DecidableEq SltR] [Inhabited SltR] [DecidableEq Bal] [Inhabited Bal] [DecidableEq Ledg] [Inhabited Ledg] [DecidableEq Leg] [Inhabited Leg]
attribute [local go_sem ↓] Go.wp_at_zero Go.wp_at_succ

theorem slts_atC {w : World} {a : Option Addr} {xs : List Slt} {n k : Nat} (hx : ∀ i, i < n → ∃ b o u, a = some ⟨b, o, none⟩ ∧ (lvSlt u).length = 6 ∧ (∀ j, j < 6 → w.cell? ⟨b, o + i * 6 + j, none⟩ = (lvSlt u)[j]?) ∧ sltR.V w u (xs.getD i default)) (hk : k < n) :
    ∃ b o p q, a = some ⟨b, o, none⟩ ∧ (w.cell? ⟨b, o + k * 6, none⟩ = some (.int .i64 (xs.getD k default).con) ∧ w.cell? ⟨b, o + k * 6 + 1, none⟩ = some (.int .i64 (xs.getD k default).sh) ∧ w.cell? ⟨b, o + k * 6 + 2, none⟩ = some (.int .i64 (xs.getD k default).pr) ∧ w.cell? ⟨b, o + k * 6 + 3, none⟩ = some (.int .i64 (xs.getD k default).lb) ∧ w.cell? ⟨b, o + k * 6 + 4, none⟩ = some (.int .i64 (xs.getD k default).lv) ∧ w.cell? ⟨b, o + k * 6 + 5, none⟩ = some (.slice p (xs.getD k default).cast.length q)) ∧ sltR.V w (.agg #[.int .i64 (xs.getD k default).con, .int .i64 (xs.getD k default).sh, .int .i64 (xs.getD k default).pr, .int .i64 (xs.getD k default).lb, .int .i64 (xs.getD k default).lv, .slice p (xs.getD k default).cast.length q]) (xs.getD k default) := by
  obtain ⟨b, o, u, e, _, p, hv⟩ := hx k hk
  have hV := hv
  obtain ⟨s, rfl, hc⟩ := hv
  obtain ⟨au, cu, rfl⟩ := vots_form hc
  exact ⟨b, o, au, cu, e, ⟨p 0 (by omega), p 1 (by omega), p 2 (by omega), p 3 (by omega), p 4 (by omega), p 5 (by omega)⟩, hV⟩
set_option maxRecDepth 20000 in
set_option maxHeartbeats 4000000 in
theorem chosenVotes_any (hSV : SortsV) (x : Value) (D : List Slt) (w : World) (hx : sltsR.V w x D) (hok0 : askF D = 0) :
    Calls Try.prog 23 #[x] w fun e w' => ChE D w e w' := by
  obtain ⟨hok1, h19⟩ := askF_ok hok0
  have hok : Hid (AllOk D) := hok1
  have HSV : Hid SortsV := hSV
  clear hok0 hok1 hSV
  obtain ⟨ax, cx, rfl, hcx, hmx, hx⟩ := hx
  unfold maxLen at hmx
  have hX : Hid (∀ i, i < D.length → ∃ b o p q, ax = some ⟨b, o, none⟩ ∧ (w.cell? ⟨b, o + i * 6, none⟩ = some (.int .i64 (D.getD i default).con) ∧ w.cell? ⟨b, o + i * 6 + 1, none⟩ = some (.int .i64 (D.getD i default).sh) ∧ w.cell? ⟨b, o + i * 6 + 2, none⟩ = some (.int .i64 (D.getD i default).pr) ∧ w.cell? ⟨b, o + i * 6 + 3, none⟩ = some (.int .i64 (D.getD i default).lb) ∧ w.cell? ⟨b, o + i * 6 + 4, none⟩ = some (.int .i64 (D.getD i default).lv) ∧ w.cell? ⟨b, o + i * 6 + 5, none⟩ = some (.slice p (D.getD i default).cast.length q)) ∧ sltR.V w (.agg #[.int .i64 (D.getD i default).con, .int .i64 (D.getD i default).sh, .int .i64 (D.getD i default).pr, .int .i64 (D.getD i default).lb, .int .i64 (D.getD i default).lv, .slice p (D.getD i default).cast.length q]) (D.getD i default)) := fun i hi => slts_atC hx hi
  clear hx
  obtain ⟨n, hn'⟩ : ∃ n, n = D.length := ⟨_, rfl⟩
  have HN : Hid (D.length = n) := hn'.symm
  rw [← hn'] at hcx hX h19 ⊢
  clear hn'
  have hn9 : 1 ≤ n ∧ n ≤ 9 := by have := inBi.1 h19; omega
  have hb0 := bkv_made w
  rw [← cB_start D] at hb0
  have hmm := @run_makeMap Try.prog
  go_enter Try.func23, Try.ntmps23
  go_wp2
  clear hmm
  go_loopw [9] (fun ii w' => ∃ i m' : Nat, i ≤ n ∧ ii = .int .i64 i ∧ m' ≤ i * 60 ∧ Bkv w' w.heap.size m' (cB D i 0) ∧ Below w.heap.size w w') (fun ii _ => n - (intOf ii).toNat)
  case atStart => exact ⟨0, 0, Nat.zero_le _, rfl, by omega, hb0, by (repeat (first | exact Below.refl _ _ | assumption | refine Below.drew ?_ | refine balloc ?_ _ | refine bset ?_ (by simp; omega) _ | refine bset ?_ (by simp) _ | refine bstep ?_ (by assumption)))⟩
  case round =>
    clear hb0
    obtain ⟨i, m', hi, rfl, hm', hBk, hbl⟩ := hrel
    have HBk : Hid (Bkv wr w.heap.size m' (cB D i 0)) := hBk
    clear hBk
    by_cases hlt : i < n
    · obtain ⟨b, o, p, q, rfl, hc, hV⟩ := hX.out i hlt
      have HAdd : Hid (∀ W, Below wr.heap.size wr W → Calls Try.prog 36 #[.map (some w.heap.size), .agg #[.int .i64 (D.getD i default).con, .int .i64 (D.getD i default).sh, .int .i64 (D.getD i default).pr, .int .i64 (D.getD i default).lb, .int .i64 (D.getD i default).lv, .slice p (D.getD i default).cast.length q]] W (AddE w.heap.size i D W)) := fun W hW => tallyAdd_any _ _ D i m' W (sltR.below hV (bstep hbl hW)) (by rw [HN.out]; exact hlt) (hok.out i (by rw [HN.out]; exact hlt)) (HBk.out.below hW) hm' (by omega)
      have hc2 : wr.cell? ⟨b, o + i * 6, none⟩ = some (.int .i64 (D.getD i default).con) ∧ wr.cell? ⟨b, o + i * 6 + 1, none⟩ = some (.int .i64 (D.getD i default).sh) ∧ wr.cell? ⟨b, o + i * 6 + 2, none⟩ = some (.int .i64 (D.getD i default).pr) ∧ wr.cell? ⟨b, o + i * 6 + 3, none⟩ = some (.int .i64 (D.getD i default).lb) ∧ wr.cell? ⟨b, o + i * 6 + 4, none⟩ = some (.int .i64 (D.getD i default).lv) ∧ wr.cell? ⟨b, o + i * 6 + 5, none⟩ = some (.slice p (D.getD i default).cast.length q) := ⟨cell_keep hbl hc.1, cell_keep hbl hc.2.1, cell_keep hbl hc.2.2.1, cell_keep hbl hc.2.2.2.1, cell_keep hbl hc.2.2.2.2.1, cell_keep hbl hc.2.2.2.2.2⟩
      clear hc hV HBk
      generalize D.getD i default = l at *
      obtain ⟨g0, g1, g2, g3, g4, g5⟩ := hc2
      have zb : b < wr.heap.size := World.block_lt_of_cell? wr _ g0
      have hwz := hbl.size
      go_wp2_with fail
      refine (HAdd.out _ (by (repeat (first | exact Below.refl _ _ | assumption | refine Below.drew ?_ | refine balloc ?_ _ | refine bset ?_ (by simp; omega) _ | refine bset ?_ (by simp) _ | refine bstep ?_ (by assumption))))).mono ?_
      rintro e w2 ⟨rfl, m2, hm2, hB2, hmod⟩
      have hB3 : Below w.heap.size w w2 := hmod.below (balloc hbl _) (by simp; omega) (fun b hb => by omega)
      have HB2 : Hid (Bkv w2 w.heap.size m2 (cB D (i + 1) 0)) := hB2
      clear hB2 hmod g0 g1 g2 g3 g4 g5 HAdd
      go_wp2
      exact ⟨⟨i + 1, m2, by omega, by go_num, hm2, HB2.out, hB3⟩, by simp [intOf]; omega⟩
    · have hin : i = n := by omega
      subst hin
      have HCh : Hid (Calls Try.prog 37 #[.map (some w.heap.size), .int .i64 i] wr fun e w' => ChE D wr e w') := tallyChosen_any HSV.out _ m' i D wr HBk.out hm' HN.out hok.out h19
      go_wp2_with fail
      refine HCh.out.mono ?_
      rintro e w2 ⟨v, ys, rfl, hv, hch, hb2⟩
      obtain ⟨av, cv, rfl⟩ := vots_form hv
      have HV : Hid (votsR.V w2 (.slice av ys.length cv) ys) := hv
      have HC : Hid (Chs D ys) := hch
      clear hv hch
      generalize ys.length = m at *
      go_wp2
      go_ret
      exact ⟨_, ys, rfl, HV.out, HC.out, bstep hbl hb2⟩
end Go.Proofs.Yteppnppknfldbaa

