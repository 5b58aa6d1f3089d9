import Derived.Test.YteppnppknfldbaaPrnAgreesLaw4
import Derived.Test.YteppnppknfldbaaPrnAgreesLaw8
import Derived.BigQuiet
import Derived.Deep.QuietTactic
import Derived.Test.YteppnppknfldbaaPrnAgreesLaw23
import Derived.Shelf.SlSortCmp.WholeK
import Derived.Ground.SlsfProg
import Derived.Test.YteppnppknfldbaaProg

/-
  What is asked of the slots that are counted together, on both sides.
-/
set_option linter.unusedSimpArgs false
set_option linter.unusedVariables false
namespace Go.Proofs.Yteppnppknfldbaa
open Go.RowKit
set_option linter.unusedSectionVars false
variable [DecidableEq Vot] [Inhabited Vot] [DecidableEq Slt] [Inhabited Slt] [DecidableEq SltR] [Inhabited SltR] [DecidableEq Bal] [Inhabited Bal] [DecidableEq Ledg] [Inhabited Ledg] [DecidableEq Leg] [Inhabited Leg]
attribute [local go_sem ↓] Go.wp_at_zero Go.wp_at_succ

set_option maxHeartbeats 4000000 in
theorem slotsFault_any (x : Value) (D : List Slt) (w : World) (hx : sltsR.V w x D) :
    Calls Try.prog 22 #[x] w fun e w' => e = .returned (.int .i64 (askF D)) ∧ Below w.heap.size w w' := by
  obtain ⟨ax, cx, rfl, hcx, hmx, hx⟩ := hx
  unfold maxLen at hmx
  obtain ⟨n, hn'⟩ : ∃ n, n = D.length := ⟨_, rfl⟩
  have HN : Hid (D.length = n) := hn'.symm
  rw [← hn'] at hcx hx ⊢
  clear hn'
  go_enter Try.func22, Try.ntmps22
  go_wp2
  go_loopw [10] (fun i w' => ∃ k : Nat, k ≤ n ∧ i = .int .i64 k ∧ scanI (askAt D) k = 0 ∧ Below w.heap.size w w') (fun i _ => n - (intOf i).toNat)
  case atStart => exact ⟨0, Nat.zero_le _, rfl, rfl, Below.refl _ _⟩
  case round =>
    obtain ⟨k, hk, rfl, hs, hbl⟩ := hrel
    have HS : Hid (scanI (askAt D) k = 0) := hs
    clear hs
    by_cases hlt : k < n
    · obtain ⟨bxa, oxa, ua, rfl, _, pa, hva⟩ := hx k hlt
      obtain ⟨l, hla⟩ : ∃ l, l = D.getD k default := ⟨_, rfl⟩
      rw [← hla] at hva
      have HLa : Hid (l = D.getD k default) := hla
      clear hla
      have hVa := hva
      obtain ⟨sa, rfl, hca⟩ := hva
      obtain ⟨aua, cua, rfl⟩ := vots_form hca
      clear hca
      have ga0 : w.cell? ⟨bxa, oxa + k * 6, none⟩ = some (.int .i64 l.con) := pa 0 (by omega)
      have ga1 : w.cell? ⟨bxa, oxa + k * 6 + 1, none⟩ = some (.int .i64 l.sh) := pa 1 (by omega)
      have ga2 : w.cell? ⟨bxa, oxa + k * 6 + 2, none⟩ = some (.int .i64 l.pr) := pa 2 (by omega)
      have ga3 : w.cell? ⟨bxa, oxa + k * 6 + 3, none⟩ = some (.int .i64 l.lb) := pa 3 (by omega)
      have ga4 : w.cell? ⟨bxa, oxa + k * 6 + 4, none⟩ = some (.int .i64 l.lv) := pa 4 (by omega)
      have ga5 : w.cell? ⟨bxa, oxa + k * 6 + 5, none⟩ = some (.slice aua l.cast.length cua) := pa 5 (by omega)
      clear pa
      clear hx
      replace ga0 := cell_keep hbl ga0
      replace ga1 := cell_keep hbl ga1
      replace ga2 := cell_keep hbl ga2
      replace ga3 := cell_keep hbl ga3
      replace ga4 := cell_keep hbl ga4
      replace ga5 := cell_keep hbl ga5
      have HF : Hid (∀ W, Below w.heap.size w W → Calls Try.prog 38 #[.agg #[.int .i64 l.con, .int .i64 l.sh, .int .i64 l.pr, .int .i64 l.lb, .int .i64 l.lv, .slice aua l.cast.length cua]] W fun e w' => e = .returned (.int .i64 (sltFault l)) ∧ Below W.heap.size W w') := fun W h => implSlotF_any _ l W (sltR.below hVa h)
      clear hVa
      go_wp2_with fail
      refine (HF.out _ (by (repeat (first | exact Below.refl _ _ | assumption | refine Below.drew ?_ | refine balloc ?_ _ | refine bset ?_ (by simp; omega) _ | refine bset ?_ (by simp) _ | refine bstep ?_ (by assumption))))).mono ?_
      rintro e w1 ⟨rfl, hb1⟩
      have hB1 : Below w.heap.size w w1 := bstep (by (repeat (first | exact Below.refl _ _ | assumption | refine Below.drew ?_ | refine balloc ?_ _ | refine bset ?_ (by simp; omega) _ | refine bset ?_ (by simp) _ | refine bstep ?_ (by assumption)))) hb1
      have HX : Hid (sltFault l = askAt D k) := by show _ = _; unfold askAt; rw [← HLa.out]
      have HH : Hid (¬ sltFault l = 0 → askF D = sltFault l) := fun h => by
        rw [HLa.out] at h ⊢
        exact askF_hit (by rw [HN.out]; exact hlt) HS.out h
      clear hb1 ga0 ga1 ga2 ga3 ga4 ga5
      by_cases hf : sltFault l = 0
      · rw [hf]
        have HF0 : Hid (askAt D k = 0) := by show _ = _; rw [← HX.out]; exact hf
        clear hf
        go_wp2
        exact ⟨⟨k + 1, by omega, by go_num, scanI_succ HS.out HF0.out, hB1⟩, by simp [intOf]; omega⟩
      · have HC := HH.out hf
        have HCC : Hid (askF D = sltFault l) := HC
        clear HC
        generalize sltFault l = c at *
        go_wp2
        go_ret
        exact ⟨by rw [HCC.out]; rfl, hB1⟩
    · have hkn : k = n := by omega
      subst hkn
      cases h19 : inB (k : Int) 1 9
      · have HC : Hid (askF D = 2) := askF_many (by rw [HN.out]; exact HS.out) (by rw [HN.out]; exact h19)
        go_wp2_with (go_at_call 29; refine (within_any _ _ _ _).mono ?_; rintro e w' ⟨rfl, hw'⟩; obtain rfl := hw'.symm; rw [h19])
        go_ret
        exact ⟨by rw [HC.out]; rfl, hbl⟩
      have h1 : ¬ (k : Int) < 1 ∧ ¬ 9 < (k : Int) := by have := inBi.1 h19; omega
      obtain ⟨h1, h2⟩ := h1
      go_wp2_with (go_at_call 29; refine (within_any _ _ _ _).mono ?_; rintro e w' ⟨rfl, hw'⟩; obtain rfl := hw'.symm; rw [h19])
      go_loopw [26] (fun i w' => ∃ j : Nat, j ≤ k ∧ i = .int .i64 j ∧ scanI (sameAt D) j = 0 ∧ Below w.heap.size w w') (fun i _ => k - (intOf i).toNat)
      case atStart => exact ⟨0, Nat.zero_le _, rfl, rfl, hbl⟩
      case round =>
        clear hbl
        obtain ⟨j, hj, rfl, hs2, hbl⟩ := hrel
        have HS2 : Hid (scanI (sameAt D) j = 0) := hs2
        clear hs2
        by_cases hlt : j < k
        · obtain ⟨bxa, oxa, ua, rfl, _, pa, hva⟩ := hx j hlt
          obtain ⟨l, hla⟩ : ∃ l, l = D.getD j default := ⟨_, rfl⟩
          rw [← hla] at hva
          have HLa : Hid (l = D.getD j default) := hla
          clear hla
          have hVa := hva
          obtain ⟨sa, rfl, hca⟩ := hva
          obtain ⟨aua, cua, rfl⟩ := vots_form hca
          clear hca
          have ga0 : w.cell? ⟨bxa, oxa + j * 6, none⟩ = some (.int .i64 l.con) := pa 0 (by omega)
          have ga1 : w.cell? ⟨bxa, oxa + j * 6 + 1, none⟩ = some (.int .i64 l.sh) := pa 1 (by omega)
          have ga2 : w.cell? ⟨bxa, oxa + j * 6 + 2, none⟩ = some (.int .i64 l.pr) := pa 2 (by omega)
          have ga3 : w.cell? ⟨bxa, oxa + j * 6 + 3, none⟩ = some (.int .i64 l.lb) := pa 3 (by omega)
          have ga4 : w.cell? ⟨bxa, oxa + j * 6 + 4, none⟩ = some (.int .i64 l.lv) := pa 4 (by omega)
          have ga5 : w.cell? ⟨bxa, oxa + j * 6 + 5, none⟩ = some (.slice aua l.cast.length cua) := pa 5 (by omega)
          clear pa
          have hx0 := hx 0 (by omega)
          obtain ⟨bxz, oxz, uz, hez, _, pz, hvz⟩ := hx0
          simp only [Option.some.injEq, Addr.mk.injEq, and_true] at hez
          obtain ⟨rfl, rfl⟩ := hez
          obtain ⟨z, hlz⟩ : ∃ l, l = D.getD 0 default := ⟨_, rfl⟩
          rw [← hlz] at hvz
          have HLz : Hid (z = D.getD 0 default) := hlz
          clear hlz
          have hVz := hvz
          obtain ⟨sz, rfl, hcz⟩ := hvz
          obtain ⟨auz, cuz, rfl⟩ := vots_form hcz
          clear hcz
          have gz0 : w.cell? ⟨bxa, oxa + 0 * 6, none⟩ = some (.int .i64 z.con) := pz 0 (by omega)
          have gz1 : w.cell? ⟨bxa, oxa + 0 * 6 + 1, none⟩ = some (.int .i64 z.sh) := pz 1 (by omega)
          have gz2 : w.cell? ⟨bxa, oxa + 0 * 6 + 2, none⟩ = some (.int .i64 z.pr) := pz 2 (by omega)
          have gz3 : w.cell? ⟨bxa, oxa + 0 * 6 + 3, none⟩ = some (.int .i64 z.lb) := pz 3 (by omega)
          have gz4 : w.cell? ⟨bxa, oxa + 0 * 6 + 4, none⟩ = some (.int .i64 z.lv) := pz 4 (by omega)
          have gz5 : w.cell? ⟨bxa, oxa + 0 * 6 + 5, none⟩ = some (.slice auz z.cast.length cuz) := pz 5 (by omega)
          clear pz
          clear hx hVa hVz
          simp only [Nat.zero_mul, Nat.add_zero] at gz0 gz1
          replace ga0 := cell_keep hbl ga0
          replace ga1 := cell_keep hbl ga1
          replace ga2 := cell_keep hbl ga2
          replace ga3 := cell_keep hbl ga3
          replace ga4 := cell_keep hbl ga4
          replace ga5 := cell_keep hbl ga5
          replace gz0 := cell_keep hbl gz0
          replace gz1 := cell_keep hbl gz1
          clear gz2 gz3 gz4 gz5
          have zb : bxa < wr.heap.size := World.block_lt_of_cell? wr _ ga0
          have i1 : (j : Int) < (k : Int) := by omega
          have i0 : (0 : Int) < (k : Int) := by omega
          have hat : Hid (sameAt D j = if l.con = z.con ∧ l.sh = z.sh then 0 else 1) := by show _ = _; unfold sameAt; rw [← HLa.out, ← HLz.out]
          have HHit : Hid (¬ (l.con = z.con ∧ l.sh = z.sh) → askF D = 1) := fun h => askF_same (by rw [HN.out]; exact HS.out) (by rw [HN.out]; exact h19) (by
            have e1 : sameAt D j = 1 := by rw [hat.out, if_neg h]
            rw [scanI_hit HS2.out (by rw [e1]; omega) _ (by rw [HN.out]; exact hlt), e1])
          by_cases m1 : l.con = z.con
          · have f1 : (l.con != z.con) = false := by simp [m1]
            by_cases m2 : l.sh = z.sh
            · have f2 : (l.sh != z.sh) = false := by simp [m2]
              have H0 : Hid (sameAt D j = 0) := by show _ = _; rw [hat.out, if_pos ⟨m1, m2⟩]
              clear m1 m2 HHit
              go_wp2
              go_quiet (fail)
              go_wp2
              exact ⟨⟨j + 1, by omega, by go_num, scanI_succ HS2.out H0.out, bdrewN (balloc hbl _) _⟩, by simp [intOf]; omega⟩
            · have f2 : (l.sh != z.sh) = true := by simp [m2]
              have HC : Hid (askF D = 1) := HHit.out (fun h => m2 h.2)
              clear m1 m2 HHit
              go_wp2
              go_quiet (fail)
              go_wp2
              go_ret
              exact ⟨by rw [HC.out]; rfl, bdrewN (balloc hbl _) _⟩
          · have f1 : (l.con != z.con) = true := by simp [m1]
            have HC : Hid (askF D = 1) := HHit.out (fun h => m1 h.1)
            clear m1 HHit
            go_wp2
            go_quiet (fail)
            go_wp2
            go_ret
            exact ⟨by rw [HC.out]; rfl, bdrewN (balloc hbl _) _⟩
        · have hjk : j = k := by omega
          subst hjk
          have HC : Hid (askF D = 0) := askF_same (by rw [HN.out]; exact HS.out) (by rw [HN.out]; exact h19) (by rw [HN.out]; exact HS2.out)
          go_wp2
          go_ret
          exact ⟨by rw [HC.out]; rfl, hbl⟩
end Go.Proofs.Yteppnppknfldbaa

/-
  AgreeSlots in plain mathematics.
-/
namespace Go.Proofs.Yteppnppknfldbaa
open Go.RowKit
set_option linter.unusedSectionVars false
variable [DecidableEq Vot] [Inhabited Vot] [DecidableEq Slt] [Inhabited Slt] [DecidableEq SltR] [Inhabited SltR] [DecidableEq Bal] [Inhabited Bal] [DecidableEq Ledg] [Inhabited Ledg] [DecidableEq Leg] [Inhabited Leg]

theorem agB_iff {D : List Slt} {ys : List Vot} (h : askF D = 0) : agB D ys = true ↔ ∀ k, k < ys.length → (ys.getD k default).val = (ys.getD 0 default).val := by
  unfold agB
  rw [decide_eq_true h, Bool.true_and, List.all_eq_true]
  constructor
  · intro hh k hk
    have := hh _ (mem_getD hk)
    simpa using this
  · intro hh v hv
    obtain ⟨k, hk, rfl⟩ := getD_of_mem hv
    simpa using hh k hk
end Go.Proofs.Yteppnppknfldbaa

/-
  AgreeSlots, the program's.
-/
set_option linter.unusedSimpArgs false
set_option linter.unusedVariables false
namespace Go.Proofs.Yteppnppknfldbaa
open Go.RowKit
set_option linter.unusedSectionVars false
variable [DecidableEq Vot] [Inhabited Vot] [DecidableEq Slt] [Inhabited Slt] [DecidableEq SltR] [Inhabited SltR] [DecidableEq Bal] [Inhabited Bal] [DecidableEq Ledg] [Inhabited Ledg] [DecidableEq Leg] [Inhabited Leg]
attribute [local go_sem ↓] Go.wp_at_zero Go.wp_at_succ

theorem containsFunc_any (u f : Value) {w : World} {A : Int → Prop} (h : Calls Try.prog 39 #[u, f] w fun e w' => ∃ r : Int, e = .returned (.int .i64 r) ∧ A r ∧ Below w.heap.size w w') :
    Calls Try.prog 24 #[u, f] w fun e w' => ∃ r : Int, e = .returned (.bool (decide (0 ≤ r))) ∧ A r ∧ Below w.heap.size w w' := by
  go_enter Try.func24, Try.ntmps24
  go_wp2_with fail
  refine h.mono ?_
  rintro e w1 ⟨r, rfl, hA, hb⟩
  have HA : Hid (A r) := hA
  clear h hA
  go_wp2
  go_ret
  exact ⟨r, rfl, HA.out, hb⟩
theorem agree1_any (v : Vot) (B : Nat) (a : Option Addr) (n c : Nat) (l : Vot) (w : World) (hB : w.cell? ⟨B, 0, none⟩ = some (.slice a n c)) (hn : 0 < n) (ha : ∃ b o, a = some ⟨b, o, none⟩ ∧ votCells w b o l) :
    Calls Try.prog 25 #[.agg #[.int .i64 v.bal, .int .i64 v.val], .pointer (some ⟨B, 0, none⟩)] w fun e w' => e = .returned (.bool (!decide (v.val = l.val))) ∧ Below w.heap.size w w' := by
  obtain ⟨b, o, rfl, g0, g1⟩ := ha
  have i0 : (0 : Int) < (n : Int) := by omega
  have z1 : B < w.heap.size := World.block_lt_of_cell? w _ hB
  have z2 : b < w.heap.size := World.block_lt_of_cell? w _ g0
  go_enter Try.func25, Try.ntmps25
  go_wp2
  go_quiet (fail)
  go_wp2
  go_ret
  exact ⟨by first | (simp; done) | (rw [show (v.val != l.val) = !decide (v.val = l.val) by rw [Bool.eq_iff_iff]; simp]; rfl), bdrewN (by (repeat (first | exact Below.refl _ _ | assumption | refine Below.drew ?_ | refine balloc ?_ _ | refine bset ?_ (by simp; omega) _ | refine bset ?_ (by simp) _ | refine bstep ?_ (by assumption)))) _⟩
set_option maxHeartbeats 2000000 in
theorem indexFunc_any (ys : List Vot) (B : Nat) (a : Option Addr) (c : Nat) (w : World) (hB : w.cell? ⟨B, 0, none⟩ = some (.slice a ys.length c)) (hV : votsR.V w (.slice a ys.length c) ys) :
    Calls Try.prog 39 #[.slice a ys.length c, .func (.func 25) #[] #[.pointer (some ⟨B, 0, none⟩)]] w fun e w' => ∃ r : Int, e = .returned (.int .i64 r) ∧ (0 ≤ r ↔ ¬ ∀ k, k < ys.length → (ys.getD k default).val = (ys.getD 0 default).val) ∧ Below w.heap.size w w' := by
  obtain ⟨a', c', e', hcv, hmv, hel⟩ := hV
  simp only [Value.slice.injEq, true_and] at e'
  obtain ⟨rfl, rfl⟩ := e'
  unfold maxLen at hmv
  have eg : ∀ args w, (callFunc 25 args).run Try.prog w = .ok (.enter 25 args) w := enters_of Try.func25 (by kernel_rfl) rfl
  obtain ⟨n, hn'⟩ : ∃ n, n = ys.length := ⟨_, rfl⟩
  rw [← hn'] at hcv hel hB ⊢
  clear hn'
  go_enter Try.func39, Try.ntmps39
  go_wp2
  go_loopw [8] (fun i w' => ∃ k : Nat, k ≤ n ∧ i = .int .i64 k ∧ (∀ t, t < k → (ys.getD t default).val = (ys.getD 0 default).val) ∧ Below w.heap.size w w') (fun i _ => n - (intOf i).toNat)
  case atStart => exact ⟨0, Nat.zero_le _, rfl, fun t h => absurd h (Nat.not_lt_zero _), Below.refl _ _⟩
  case round =>
    obtain ⟨k, hk, rfl, hA, hbl⟩ := hrel
    have HA : Hid (∀ t, t < k → (ys.getD t default).val = (ys.getD 0 default).val) := hA
    clear hA
    by_cases hlt : k < n
    · obtain ⟨b0, o0, rfl, z0⟩ := hel 0 (by omega)
      obtain ⟨bk, ok, ek, gk⟩ := hel k hlt
      simp only [Option.some.injEq, Addr.mk.injEq, and_true] at ek
      obtain ⟨rfl, rfl⟩ := ek
      have z0' := votCells_below hbl z0
      obtain ⟨g0, g1⟩ := votCells_below hbl gk
      simp only [Nat.zero_mul, Nat.add_zero] at z0'
      have hB' := cell_keep hbl hB
      obtain ⟨f, hf⟩ : ∃ f, f = ys.getD 0 default := ⟨_, rfl⟩
      obtain ⟨v, hv⟩ : ∃ v, v = ys.getD k default := ⟨_, rfl⟩
      rw [← hf] at z0'
      rw [← hv] at g0 g1
      have HF : Hid (ys.getD 0 default = f ∧ ys.getD k default = v) := ⟨hf.symm, hv.symm⟩
      have hcon := agree1_any v B (some ⟨b0, o0, none⟩) n c f wr hB' (by omega) ⟨b0, o0, rfl, z0'⟩
      clear hf hv gk z0 hel
      go_wp2_with fail
      refine hcon.mono ?_
      rintro e w1 ⟨rfl, hb1⟩
      have hB1 := bstep hbl hb1
      clear hcon hb1
      by_cases hh : v.val = f.val
      · rw [show (!decide (v.val = f.val)) = false by simp [hh]]
        have HH : Hid (v.val = f.val) := hh
        clear hh
        go_wp2
        refine ⟨⟨k + 1, by omega, by go_num, fun t ht => ?_, hB1⟩, by simp [intOf]; omega⟩
        by_cases h : t < k
        · exact HA.out t h
        · have : t = k := by omega
          subst this
          rw [HF.out.1, HF.out.2]
          exact HH.out
      · rw [show (!decide (v.val = f.val)) = true by simp [hh]]
        have HH : Hid (¬ v.val = f.val) := hh
        clear hh
        go_wp2
        go_ret
        refine ⟨(k : Int), rfl, ⟨fun _ h => HH.out ?_, fun _ => by omega⟩, hB1⟩
        have := h k hlt
        rw [HF.out.1, HF.out.2] at this
        exact this
    · have hkn : k = n := by omega
      subst hkn
      clear hel
      go_wp2
      go_ret
      exact ⟨-1, rfl, ⟨fun h => by omega, fun h => absurd HA.out h⟩, hbl⟩
set_option maxHeartbeats 2000000 in
theorem implAgree_any (hSV : SortsV) (x : Value) (D : List Slt) (ys : List Vot) (w : World) (hx : sltsR.V w x D) (hys : askF D = 0 → Chs D ys) :
    Calls Try.prog 10 #[x] w fun e w' => e = .returned (.bool (agB D ys)) ∧ Below w.heap.size w w' := by
  obtain ⟨ax, cx, rfl⟩ := slts_form hx
  have HX : Hid (∀ W, Below w.heap.size w W → sltsR.V W (.slice ax D.length cx) D) := fun W h => sltsR.below hx h
  clear hx
  generalize D.length = n at *
  go_enter Try.func10, Try.ntmps10
  go_wp2_with fail
  refine (slotsFault_any _ D _ (HX.out _ (by (repeat (first | exact Below.refl _ _ | assumption | refine Below.drew ?_ | refine balloc ?_ _ | refine bset ?_ (by simp; omega) _ | refine bset ?_ (by simp) _ | refine bstep ?_ (by assumption)))))).mono ?_
  rintro e w1 ⟨rfl, hb1⟩
  have hB1 : Below w.heap.size w w1 := bstep (by (repeat (first | exact Below.refl _ _ | assumption | refine Below.drew ?_ | refine balloc ?_ _ | refine bset ?_ (by simp; omega) _ | refine bset ?_ (by simp) _ | refine bstep ?_ (by assumption)))) hb1
  clear hb1
  by_cases hf : askF D = 0
  · have HF : Hid (askF D = 0) := hf
    have hC := fun W h => chosenVotes_any hSV _ D W (HX.out W h) hf
    rw [hf]
    clear hf
    go_wp2_with fail
    refine (hC _ hB1).mono ?_
    rintro e w2 ⟨v, zs, rfl, hV, hZ, hb2⟩
    obtain rfl := chs_unique (hys HF.out) hZ
    have hB2 : Below w.heap.size w w2 := bstep hB1 hb2
    clear hC hb2 hB1 hys hZ
    obtain ⟨av, cv, rfl⟩ := vots_form hV
    have HAg : Hid (agB D ys = true ↔ ∀ k, k < ys.length → (ys.getD k default).val = (ys.getD 0 default).val) := agB_iff HF.out
    have HV : Hid (∀ W, Below w2.heap.size w2 W → votsR.V W (.slice av ys.length cv) ys) := fun W h => votsR.below hV h
    clear hV
    have hI := fun W B h1 h2 => indexFunc_any ys B av cv W h1 (HV.out W h2)
    generalize ys.length = Ly at *
    go_wp2_with fail
    refine (containsFunc_any _ _ (hI _ w2.heap.size (by simp [go_sem]) (by (repeat (first | exact Below.refl _ _ | assumption | refine Below.drew ?_ | refine balloc ?_ _ | refine bset ?_ (by simp; omega) _ | refine bset ?_ (by simp) _ | refine bstep ?_ (by assumption)))))).mono ?_
    rintro e w3 ⟨r, rfl, hr, hb3⟩
    have hB3 : Below w.heap.size w w3 := bstep (by (repeat (first | exact Below.refl _ _ | assumption | refine Below.drew ?_ | refine balloc ?_ _ | refine bset ?_ (by simp; omega) _ | refine bset ?_ (by simp) _ | refine bstep ?_ (by assumption)))) hb3
    clear hb3 hI
    by_cases hr0 : 0 ≤ r
    · have HE : Hid (agB D ys = false) := by
        show _ = _
        cases e : agB D ys with
        | false => rfl
        | true => exact absurd (HAg.out.1 e) (hr.1 hr0)
      rw [show decide (0 ≤ r) = true by simp [hr0]]
      go_wp2
      go_ret
      exact ⟨by rw [HE.out]; rfl, hB3⟩
    · have HE : Hid (agB D ys = true) := by
        show _ = _
        refine HAg.out.2 ?_
        by_cases h : ∀ k, k < Ly → (ys.getD k default).val = (ys.getD 0 default).val
        · exact h
        · exact absurd (hr.2 h) hr0
      rw [show decide (0 ≤ r) = false by simp; omega]
      go_wp2
      go_ret
      exact ⟨by rw [HE.out]; rfl, hB3⟩
  · have HE : Hid (agB D ys = false) := by show _ = _; unfold agB; rw [decide_eq_false hf]; rfl
    obtain ⟨c, hc⟩ : ∃ c, c = askF D := ⟨_, rfl⟩
    rw [← hc] at hf ⊢
    clear hc hys
    go_wp2
    go_ret
    exact ⟨by rw [HE.out]; rfl, hB1⟩
end Go.Proofs.Yteppnppknfldbaa

/-
  slices.SortFunc at votes: the library's contract, laid at this program.
-/
namespace Go.Proofs.Yteppnppknfldbaa
open Go.Shelf
def Try.sortV_ren : Go.Shelf.Ren := ⟨fun | 6 => 49 | 15 => 58 | 14 => 57 | 28 => 70 | 29 => 71 | 20 => 62 | 21 => 63 | 22 => 64 | 23 => 65 | 24 => 66 | 25 => 67 | 26 => 68 | 27 => 69 | 46 => 73 | 47 => 74 | 48 => 75 | 49 => 76 | 50 => 77 | 57 => 79 | n => n, fun | 22 => 41 | 24 => 40 | 25 => 93 | 3 => 3 | 39 => 99 | 0 => 0 | 53 => 116 | 55 => 118 | 4 => 4 | 46 => 110 | 45 => 109 | 50 => 76 | 5 => 5 | 9 => 9 | 66 => 119 | 70 => 123 | 76 => 126 | 77 => 127 | n => n, fun | n => n⟩
theorem Try.sortV : Go.Proofs.SlLaysF0.n6 Try.prog Try.sortV_ren := {
  mixed := by kernel_rfl
  f6 := ⟨Try.f49.name, by decide, Try.func49.trans (congrArg some (by kernel_rfl))⟩
  f14 := ⟨Try.f57.name, by decide, Try.func57.trans (congrArg some (by kernel_rfl))⟩
  f15 := Try.func58.trans (congrArg some (by kernel_rfl))
  f20 := ⟨Try.f62.name, by decide, Try.func62.trans (congrArg some (by kernel_rfl))⟩
  f21 := ⟨Try.f63.name, by decide, Try.func63.trans (congrArg some (by kernel_rfl))⟩
  f22 := ⟨Try.f64.name, by decide, Try.func64.trans (congrArg some (by kernel_rfl))⟩
  f23 := ⟨Try.f65.name, by decide, Try.func65.trans (congrArg some (by kernel_rfl))⟩
  f24 := ⟨Try.f66.name, by decide, Try.func66.trans (congrArg some (by kernel_rfl))⟩
  f25 := ⟨Try.f67.name, by decide, Try.func67.trans (congrArg some (by kernel_rfl))⟩
  f26 := ⟨Try.f68.name, by decide, Try.func68.trans (congrArg some (by kernel_rfl))⟩
  f27 := ⟨Try.f69.name, by decide, Try.func69.trans (congrArg some (by kernel_rfl))⟩
  f28 := Try.func70.trans (congrArg some (by kernel_rfl))
  f29 := Try.func71.trans (congrArg some (by kernel_rfl))
  f46 := ⟨Try.f73.name, by decide, Try.func73.trans (congrArg some (by kernel_rfl))⟩
  f47 := Try.func74.trans (congrArg some (by kernel_rfl))
  f48 := Try.func75.trans (congrArg some (by kernel_rfl))
  f49 := ⟨Try.f76.name, by decide, Try.func76.trans (congrArg some (by kernel_rfl))⟩
  f50 := ⟨Try.f77.name, by decide, Try.func77.trans (congrArg some (by kernel_rfl))⟩
  f57 := ⟨Try.f79.name, by decide, Try.func79.trans (congrArg some (by kernel_rfl))⟩
  t0 := Try.underlying0
  a0 := Try.isAgg0
  z0 := Try.sizeOf0
  v0 := Try.zeroValue0
  t3 := Try.underlying3
  a3 := Try.isAgg3
  z3 := Try.sizeOf3
  v3 := Try.zeroValue3
  t4 := Try.underlying4
  a4 := Try.isAgg4
  z4 := Try.sizeOf4
  v4 := Try.zeroValue4
  t5 := Try.underlying5
  a5 := Try.isAgg5
  z5 := Try.sizeOf5
  v5 := Try.zeroValue5
  t9 := Try.underlying9
  a9 := Try.isAgg9
  z9 := Try.sizeOf9
  v9 := Try.zeroValue9
  t22 := Try.underlying41
  a22 := Try.isAgg41
  z22 := Try.sizeOf41
  v22 := Try.zeroValue41
  t25 := Try.underlying93
  a25 := Try.isAgg93
  z25 := Try.sizeOf93
  v25 := Try.zeroValue93
  t39 := Try.underlying99
  a39 := Try.isAgg99
  z39 := Try.sizeOf99
  v39 := Try.zeroValue99
  t45 := Try.underlying109
  a45 := Try.isAgg109
  z45 := Try.sizeOf109
  v45 := Try.zeroValue109
  t46 := Try.underlying110
  a46 := Try.isAgg110
  z46 := Try.sizeOf110
  v46 := Try.zeroValue110
  t50 := Try.underlying76
  a50 := Try.isAgg76
  z50 := Try.sizeOf76
  v50 := Try.zeroValue76
  t53 := Try.underlying116
  a53 := Try.isAgg116
  z53 := Try.sizeOf116
  v53 := Try.zeroValue116
  t55 := Try.underlying118
  a55 := Try.isAgg118
  z55 := Try.sizeOf118
  v55 := Try.zeroValue118
  t66 := Try.underlying119
  a66 := Try.isAgg119
  z66 := Try.sizeOf119
  v66 := Try.zeroValue119
  t70 := Try.underlying123
  a70 := Try.isAgg123
  z70 := Try.sizeOf123
  v70 := Try.zeroValue123
  t76 := Try.underlying126
  a76 := Try.isAgg126
  z76 := Try.sizeOf126
  v76 := Try.zeroValue126
  t77 := Try.underlying127
  a77 := Try.isAgg127
  z77 := Try.sizeOf127
  v77 := Try.zeroValue127 }
end Go.Proofs.Yteppnppknfldbaa

