import Derived.Test.YtncmdeijimgchaaPrnOutcomesLaw12
import Derived.Test.YtncmdeijimgchaaPrnOutcomesLaw4
import Derived.Test.YtncmdeijimgchaaPrnOutcomesLaw14
import Derived.BigQuiet
import Derived.Deep.QuietTactic
import Derived.Deep.RegionHeld3
import Derived.Test.YtncmdeijimgchaaPrnOutcomesLaw20
import Derived.Test.YtncmdeijimgchaaPrnOutcomesLaw11
import Derived.Shelf.Abstract
import Derived.Test.YtncmdeijimgchaaPrnOutcomesLaw8
import Derived.Test.YtncmdeijimgchaaPrnOutcomesLaw7
import Derived.Test.YtncmdeijimgchaaPrnOutcomesLaw1
import Derived.Deep.DrawnRows

/-
  ballotFault, the program's.
-/
set_option linter.unusedSimpArgs false
set_option linter.unusedVariables false
namespace Go.Proofs.Ytncmdeijimgchaa
open Go.RowKit
set_option linter.unusedSectionVars false
variable [DecidableEq Vot] [Inhabited Vot] [DecidableEq Slt] [Inhabited Slt] [DecidableEq SltR] [Inhabited SltR] [DecidableEq Bal] [Inhabited Bal] [DecidableEq Ledg] [Inhabited Ledg] [DecidableEq Leg] [Inhabited Leg] [DecidableEq Acc] [Inhabited Acc] [DecidableEq AccR] [Inhabited AccR] [DecidableEq AccsR] [Inhabited AccsR] [DecidableEq SltsR] [Inhabited SltsR]
attribute [local go_sem ↓] Go.wp_at_zero Go.wp_at_succ

set_option maxRecDepth 20000 in
set_option maxHeartbeats 4000000 in
theorem implBalF_any (x : Value) (R : List Int) (n : Nat) (b own : Int) (w : World) (hx : IntsV w x R) (hn : n ≤ 1000) :
    Calls Try.prog 46 #[x, .int .i64 n, .agg #[.int .i64 b, .int .i64 own]] w fun e w' => e = .returned (.int .i64 (balF R n b own)) ∧ Below w.heap.size w w' := by
  obtain ⟨a, cx, rfl, hcx, hmx, hx⟩ := hx
  unfold maxLen at hmx
  have HX : Hid (∀ i, i < R.length → ∃ bb o, a = some ⟨bb, o, none⟩ ∧ w.cell? ⟨bb, o + i, none⟩ = some (.int .i64 (R.getD i 0))) := hx
  clear hx
  have HV : Hid (∀ W, Calls Try.prog 89 #[.agg #[.int .i64 b, .int .i64 own]] W fun e w' => e = .returned (.bool (votB ⟨b, own⟩)) ∧ Below W.heap.size W w') := fun W => isVote_any ⟨b, own⟩ W
  have H1 : Hid (votB ⟨b, own⟩ = false → balF R n b own = 3) := fun h => balF_vote h
  have H2 : Hid (∀ k, votB ⟨b, own⟩ = true → k < R.length → scanI (badAt R n) k = 0 → inB (R.getD k 0) 0 ((n : Int) - 1) = false → balF R n b own = 3) := fun k h hk hs hb => balF_bad h hk hs hb
  have H3 : Hid (∀ k, votB ⟨b, own⟩ = true → scanI (badAt R n) R.length = 0 → k + 1 < R.length → scanI (riseAt R) (k + 1) = 0 → R.getD (k + 1) 0 ≤ R.getD k 0 → balF R n b own = 7) := fun k h h0 hk hs hb => balF_rise h h0 hk hs (by omega)
  have H4 : Hid (votB ⟨b, own⟩ = true → scanI (badAt R n) R.length = 0 → scanI (riseAt R) R.length = 0 → balF R n b own = 0) := fun h h0 hs => balF_ok h h0 hs
  generalize balF R n b own = Z at *
  obtain ⟨m, hm'⟩ : ∃ m, m = R.length := ⟨_, rfl⟩
  rw [← hm'] at hcx HX H2 H3 H4 ⊢
  clear hm'
  cases hv : votB ⟨b, own⟩
  · have HC : Hid (Z = 3) := H1.out hv
    rw [hv] at HV
    clear H1 H2 H3 H4 HX
    go_enter Try.func46, Try.ntmps46
    go_wp2_with fail
    refine (HV.out _).mono ?_
    rintro e w1 ⟨rfl, hb1⟩
    have hB1 : Below w.heap.size w w1 := by (repeat (first | exact Below.refl _ _ | assumption | refine Below.drew ?_ | refine balloc ?_ _ | refine bset ?_ (by simp; omega) _ | refine bset ?_ (by simp) _ | refine bstep ?_ (by assumption)))
    go_wp2
    go_ret
    exact ⟨by rw [HC.out]; rfl, hB1⟩
  have HVt : Hid (votB ⟨b, own⟩ = true) := hv
  rw [hv] at HV
  clear hv H1
  go_enter Try.func46, Try.ntmps46
  go_wp2_with fail
  refine (HV.out _).mono ?_
  rintro e w1 ⟨rfl, hb1⟩
  have hB1 : Below w.heap.size w w1 := by (repeat (first | exact Below.refl _ _ | assumption | refine Below.drew ?_ | refine balloc ?_ _ | refine bset ?_ (by simp; omega) _ | refine bset ?_ (by simp) _ | refine bstep ?_ (by assumption)))
  clear hb1 HV
  go_wp2
  go_loopw [16] (fun i w' => ∃ k : Nat, k ≤ m ∧ i = .int .i64 k ∧ Hid (scanI (badAt R n) k = 0) ∧ Below w.heap.size w w') (fun i _ => m - (intOf i).toNat)
  case atStart => exact ⟨0, Nat.zero_le _, rfl, rfl, hB1⟩
  case round =>
    clear hB1
    obtain ⟨k, hk, rfl, HS, hB1⟩ := hrel
    by_cases hlt : k < m
    · obtain ⟨bb, o, rfl, hc⟩ := HX.out k hlt
      replace hc := cell_keep hB1 hc
      have hw1 : IntKind.i64.wrap ((n : Int) - 1) = (n : Int) - 1 := by rw [IntKind.wrap_i64]; omega
      have HH : Hid (inB (R.getD k 0) 0 ((n : Int) - 1) = false → Z = 3) := fun h => H2.out k HVt.out hlt HS.out h
      have HZ : Hid (inB (R.getD k 0) 0 ((n : Int) - 1) = true → scanI (badAt R n) (k + 1) = 0) := fun h => scanI_succ HS.out (badAt_ok h)
      generalize R.getD k 0 = y at *
      cases hy : inB y 0 ((n : Int) - 1)
      · have HC : Hid (Z = 3) := HH.out hy
        clear HH HZ
        go_wp2_with (go_at_call 90; refine (within_any _ _ _ _).mono ?_; rintro e w' ⟨rfl, hw'⟩; obtain rfl := hw'.symm; rw [hy])
        go_ret
        exact ⟨by rw [HC.out]; rfl, hB1⟩
      · have HC : Hid (scanI (badAt R n) (k + 1) = 0) := HZ.out hy
        clear HH HZ
        go_wp2_with (go_at_call 90; refine (within_any _ _ _ _).mono ?_; rintro e w' ⟨rfl, hw'⟩; obtain rfl := hw'.symm; rw [hy])
        exact ⟨⟨k + 1, by omega, by go_num, HC, hB1⟩, by simp [intOf]; omega⟩
    · have hkm : k = m := by omega
      subst hkm
      clear H2
      go_wp2
      go_loopw [28] (fun i w' => ∃ j : Nat, j ≤ k ∧ i = .int .i64 j ∧ Hid (scanI (riseAt R) j = 0) ∧ Below w.heap.size w w') (fun i _ => k - (intOf i).toNat)
      case atStart => exact ⟨0, Nat.zero_le _, rfl, rfl, hB1⟩
      case round =>
        clear hB1
        obtain ⟨j, hj, rfl, HS2, hB1⟩ := hrel
        by_cases hlt2 : j < k
        · obtain ⟨bb, o, rfl, hc⟩ := HX.out j hlt2
          replace hc := cell_keep hB1 hc
          cases j with
          | zero =>
            have HC : Hid (scanI (riseAt R) 1 = 0) := scanI_succ HS2.out (riseAt_zero R)
            simp only [Nat.add_zero] at hc
            generalize R.getD 0 0 = y at *
            go_wp2
            exact ⟨⟨1, by omega, by go_num, HC, hB1⟩, by simp [intOf]; omega⟩
          | succ p =>
            obtain ⟨bb', o', he, hc'⟩ := HX.out p (by omega)
            simp only [Option.some.injEq, Addr.mk.injEq, and_true] at he
            obtain ⟨rfl, rfl⟩ := he
            replace hc' := cell_keep hB1 hc'
            have i1 : (p : Int) < (k : Int) := by omega
            have i3 : (0 : Int) < ((p + 1 : Nat) : Int) := by omega
            have i5 : IntKind.i64.wrap (((p + 1 : Nat) : Int) - 1) = (p : Int) := by rw [IntKind.wrap_i64]; omega
            have i6 : (0 : Int) ≤ (p : Int) := by omega
            have i7 : IntKind.i64.wrap (p : Int) = p := wrapId (by omega) (by omega)
            have HH : Hid (R.getD (p + 1) 0 ≤ R.getD p 0 → Z = 7) := fun h => H3.out p HVt.out HS.out hlt2 HS2.out h
            have HZ : Hid (R.getD p 0 < R.getD (p + 1) 0 → scanI (riseAt R) (p + 1 + 1) = 0) := fun h => scanI_succ HS2.out (riseAt_ok h)
            generalize R.getD p 0 = y at *
            generalize R.getD (p + 1) 0 = z at *
            by_cases hyz : y < z
            · have HC : Hid (scanI (riseAt R) (p + 1 + 1) = 0) := HZ.out hyz
              have hle : ¬ z ≤ y := by omega
              go_wp2
              exact ⟨⟨p + 1 + 1, by omega, by go_num, HC, hB1⟩, by simp [intOf]; omega⟩
            · have HC : Hid (Z = 7) := HH.out (by omega)
              have hle : z ≤ y := by omega
              go_wp2
              go_ret
              exact ⟨by rw [HC.out]; rfl, hB1⟩
        · have hjk : j = k := by omega
          subst hjk
          have HC : Hid (Z = 0) := H4.out HVt.out HS.out HS2.out
          go_wp2
          go_ret
          exact ⟨by rw [HC.out]; rfl, hB1⟩
end Go.Proofs.Ytncmdeijimgchaa

/-
  copiedAcceptors, the program's.
-/
set_option linter.unusedSimpArgs false
set_option linter.unusedVariables false
namespace Go.Proofs.Ytncmdeijimgchaa
open Go.RowKit
set_option linter.unusedSectionVars false
variable [DecidableEq Vot] [Inhabited Vot] [DecidableEq Slt] [Inhabited Slt] [DecidableEq SltR] [Inhabited SltR] [DecidableEq Bal] [Inhabited Bal] [DecidableEq Ledg] [Inhabited Ledg] [DecidableEq Leg] [Inhabited Leg] [DecidableEq Acc] [Inhabited Acc] [DecidableEq AccR] [Inhabited AccR] [DecidableEq AccsR] [Inhabited AccsR] [DecidableEq SltsR] [Inhabited SltsR]
attribute [local go_sem ↓] Go.wp_at_zero Go.wp_at_succ

set_option maxRecDepth 20000 in
set_option maxHeartbeats 4000000 in
theorem copiedAccs_u (x : Value) (l : List Acc) (w : World) (hx : accsR.V w x l) (hl : ListOk l) :
    Calls Try.prog 47 #[x, .func (.func 48) #[] #[]] w fun e w' => ∃ v F, e = .returned v ∧ accsR.O w' w.heap.size F v l ∧ Below w.heap.size w w' := by
  obtain ⟨a, cx, rfl, hcx, hmx, hx⟩ := accs_at hx
  unfold maxLen at hmx
  have hXs : Hid (∀ k, k < l.length → ∃ b o p q, a = some ⟨b, o, none⟩ ∧ w.cell? ⟨b, o + k, none⟩ = some (.slice p (l.getD k default).slots.length q) ∧ accR.V w (.agg #[.slice p (l.getD k default).slots.length q]) (l.getD k default)) := hx
  have HOk : Hid (∀ k, k < l.length → AccOk (l.getD k default).slots) := fun k hk => accOk_of (hl.ok k hk)
  have hn5 := hl.hi
  clear hx hl
  obtain ⟨n, hn'⟩ : ∃ n, n = l.length := ⟨_, rfl⟩
  have HN : Hid (l.length = n) := hn'.symm
  rw [← hn'] at hcx hXs HOk hn5 ⊢
  clear hn'
  have hs0 : ∃ a c' F, (Value.slice none 0 0) = .slice a 0 c' ∧ accsR.O w w.heap.size F (.slice a 0 c') (l.take 0) := ⟨none, 0, _, rfl, accs_nil w _⟩
  have eg := enters_of Try.func48 (by kernel_rfl) rfl
  go_enter Try.func47, Try.ntmps47
  go_wp2
  go_loopw [5, 10] (fun t i w' => ∃ k : Nat, k ≤ n ∧ i = .int .i64 k ∧ (∃ a c' F, t = .slice a k c' ∧ accsR.O w' w.heap.size F (.slice a k c') (l.take k)) ∧ Below w.heap.size w w') (fun t i _ => n - (intOf i).toNat)
  case atStart => exact ⟨0, Nat.zero_le _, rfl, hs0, by (repeat (first | exact Below.refl _ _ | assumption | refine Below.drew ?_ | refine balloc ?_ _ | refine bset ?_ (by simp; omega) _ | refine bset ?_ (by simp) _ | refine bstep ?_ (by assumption)))⟩
  case round =>
    clear hs0
    obtain ⟨k, hk, rfl, ⟨as_, cs_, F, rfl, ho⟩, hbl⟩ := hrel
    have HO : Hid (accsR.O wr w.heap.size F (.slice as_ k cs_) (l.take k)) := ho
    clear ho
    have hwz := hbl.size
    by_cases hlt : k < n
    · obtain ⟨b, o, p, q, rfl, hc, hV⟩ := hXs.out k hlt
      have hok := HOk.out k hlt
      have HL : Hid (l.take (k + 1) = l.take k ++ [l.getD k default]) := take_accs l (by rw [HN.out]; exact hlt)
      replace hc := cell_keep hbl hc
      have zb : b < wr.heap.size := World.block_lt_of_cell? wr _ hc
      have HCp : Hid (∀ W, Below w.heap.size w W → Calls Try.prog 48 #[.agg #[.slice p (l.getD k default).slots.length q]] W fun e w' => ∃ v F, e = .returned v ∧ accR.O w' W.heap.size F v (l.getD k default) ∧ Below W.heap.size W w') := fun W hW => copiedAcc_u _ (l.getD k default) W (accR.below hV hW) (Nat.le_trans hok.len (by omega)) (fun j hj => Nat.le_trans (sltOk_of (hok.ok j hj)).len (by omega))
      clear hV hok
      generalize l.getD k default = y at *
      go_wp2_with fail
      refine (HCp.out _ (by (repeat (first | exact Below.refl _ _ | assumption | refine Below.drew ?_ | refine balloc ?_ _ | refine bset ?_ (by simp; omega) _ | refine bset ?_ (by simp) _ | refine bstep ?_ (by assumption))))).mono ?_
      rintro e w2 ⟨v2, F2, rfl, o2, hb2⟩
      obtain ⟨a2, c2, rfl, _⟩ := acc_cells o2
      have hB2 : Below wr.heap.size wr w2 := by (repeat (first | exact Below.refl _ _ | assumption | refine Below.drew ?_ | refine balloc ?_ _ | refine bset ?_ (by simp; omega) _ | refine bset ?_ (by simp) _ | refine bstep ?_ (by assumption)))
      have hBw : Below w.heap.size w w2 := bstep hbl hB2
      have hz2 := hB2.size
      have HO2 : Hid (accsR.O w2 w.heap.size F (.slice as_ k cs_) (l.take k)) := accsR.keep HO.out hB2
      have HFl : Hid (∀ b, F b → b < wr.heap.size) := fun b hb => (accsR.rng HO.out b hb).2
      have HF2 : Hid (∀ b, F2 b → wr.heap.size ≤ b) := fun b hb => by have := (accR.rng o2 b hb).1; first | exact this | (simp at this; omega)
      have HU : Hid (accR.O w2 w.heap.size F2 (.agg #[.slice a2 y.slots.length c2]) y) := accR.base o2 (by first | exact hwz | (simp; omega))
      clear hb2 o2 HCp HO hc
      go_wp2_with (at_builtin; refine wpl_appA _ rfl _ _ rfl w.heap.size F F2 _ (l.take k) y w2.heap.size a2 c2 rfl rfl ?a1 ?a2 ?a3 ?a4 ?a5 ?a6 ?_)
      case a1 => exact accsR.alloc HO2.out _
      case a2 => exact accR.alloc HU.out _
      case a3 => exact fun b h1 h2 => by have := HFl.out b h1; have := HF2.out b h2; omega
      case a4 => simp [go_sem]
      case a5 => rw [List.length_take, HN.out]; omega
      case a6 => simp; omega
      intro v3 w3 F3 o3 hb3 _
      rw [← HL.out] at o3
      obtain ⟨a3, c3, e3⟩ := accs_form (accsR.ofO o3)
      rw [show (l.take (k + 1)).length = k + 1 by rw [List.length_take, HN.out]; omega] at e3
      subst e3
      have o3' : ∃ a c' F, (Value.slice a3 (k + 1) c3) = .slice a (k + 1) c' ∧ accsR.O w3 w.heap.size F (.slice a (k + 1) c') (l.take (k + 1)) := ⟨_, _, F3, rfl, o3⟩
      have hB4 : Below w.heap.size w w3 := Below.trans (balloc hBw _) hb3
      clear o3 hb3
      go_wp2
      exact ⟨⟨k + 1, by omega, by go_num, o3', hB4⟩, by simp [intOf]; omega⟩
    · have hkn : k = n := by omega
      subst hkn
      have ho := HO.out
      rw [List.take_of_length_le (by rw [HN.out]; exact Nat.le_refl _)] at ho
      have HO2 : Hid (accsR.O wr w.heap.size F (.slice as_ k cs_) l) := ho
      clear ho HO
      go_wp2
      refine bodyPost_ret (v := .slice as_ k cs_) (by simp [results, Try.results47, go_sem]) rfl ⟨_, F, rfl, HO2.out, hbl⟩
end Go.Proofs.Ytncmdeijimgchaa

/-
  What a slot may have as its last vote.
-/
set_option linter.unusedSimpArgs false
set_option linter.unusedVariables false
namespace Go.Proofs.Ytncmdeijimgchaa
open Go.RowKit
set_option linter.unusedSectionVars false
variable [DecidableEq Vot] [Inhabited Vot] [DecidableEq Slt] [Inhabited Slt] [DecidableEq Bal] [Inhabited Bal] [DecidableEq Ledg] [Inhabited Ledg] [DecidableEq Leg] [Inhabited Leg]
attribute [local go_sem ↓] Go.wp_at_zero Go.wp_at_succ

def oldB (ob ov : Int) : Bool := (decide (ob = -1) && decide (ov = 0)) || (inB ob 0 1000 && inB ov 1 2)
set_option maxRecDepth 20000 in
set_option maxHeartbeats 2000000 in
theorem isOld_any (ob ov : Int) (w : World) : Calls Try.prog 61 #[.agg #[.int .i64 ob, .int .i64 ov]] w fun e w' => e = .returned (.bool (oldB ob ov)) ∧ Below w.heap.size w w' := by
  unfold oldB
  cases h : (decide (ob = -1) && decide (ov = 0))
  · rw [Bool.false_or]
    have HV : Hid (∀ W, Calls Try.prog 89 #[.agg #[.int .i64 ob, .int .i64 ov]] W fun e w' => e = .returned (.bool (inB ob 0 1000 && inB ov 1 2)) ∧ Below W.heap.size W w') := fun W => isVote_any ⟨ob, ov⟩ W
    generalize (inB ob 0 1000 && inB ov 1 2) = bb at *
    have hv := eqlVot ob ov (-1) 0
    rw [show (decide (ob = -1) && decide (ov = 0)) = false from h] at hv
    go_enter Try.func61, Try.ntmps61
    go_wp2
    refine wp_region_noPanic ?_
    refine region_upto (fun W => W.cell? ⟨w.heap.size, 0, none⟩ = some (.int .i64 ob) ∧ W.cell? ⟨w.heap.size, 1, none⟩ = some (.int .i64 ov)) 8 (by kernel_rfl) ⟨by simp [go_sem], by simp [go_sem]⟩ (fun hS => ?_)
    refine upto_takeN (i := 0) (v := ?_) rfl (by kernel_rfl) (by kernel_rfl) (by kernel_rfl) (by kernel_rfl) (fun _ _ _ h => h) (by rfl) hS ?_ ?_
    rotate_left
    · intro wS hSw
      try dsimp only at hSw
      first | (go_simp; done) | (go_simp; with_reducible rfl)
    try simp only [Act.put, List.getElem_toArray, List.getElem_cons_zero, List.getElem_cons_succ, List.setIfInBounds_toArray, List.set_cons_zero, List.set_cons_succ]
    refine upto_step (i := 1) (by kernel_rfl) rfl ?_
    intro K hK
    go_simp
    refine (noVote_any _).mono ?_
    rintro e w1 ⟨rfl, hb1⟩
    have hB1 : Below w.heap.size w w1 := bstep (by (repeat (first | exact Below.refl _ _ | assumption | refine Below.drew ?_ | refine balloc ?_ _ | refine bset ?_ (by simp; omega) _ | refine bset ?_ (by simp) _ | refine bstep ?_ (by assumption)))) hb1
    have hS1 : (fun W => W.cell? ⟨w.heap.size, 0, none⟩ = some (.int .i64 ob) ∧ W.cell? ⟨w.heap.size, 1, none⟩ = some (.int .i64 ov)) w1 := ⟨cell_keep hb1 (by simp [go_sem]), cell_keep hb1 (by simp [go_sem])⟩
    refine hK _ _ (fun _ => hS1) ?_
    clear hK K
    try simp only [Act.put, List.getElem_toArray, List.getElem_cons_zero, List.getElem_cons_succ, List.setIfInBounds_toArray, List.set_cons_zero, List.set_cons_succ]
    refine upto_takeN (i := 2) (v := (.bool false)) rfl (by kernel_rfl) (by kernel_rfl) (by kernel_rfl) (by kernel_rfl) (fun _ _ _ h => h) (by rfl) hS1 ?_ ?_
    · intro wS hSw
      try dsimp only at hSw
      go_simp
    try simp only [Act.put, List.getElem_toArray, List.getElem_cons_zero, List.getElem_cons_succ, List.setIfInBounds_toArray, List.set_cons_zero, List.set_cons_succ]
    refine upto_takeN (i := 3) (v := ?_) rfl (by kernel_rfl) (by kernel_rfl) (by kernel_rfl) (by kernel_rfl) (fun _ _ _ h => h) (by rfl) hS1 ?_ ?_
    rotate_left
    · intro wS hSw
      try dsimp only at hSw
      first | (go_simp; done) | (go_simp; with_reducible rfl)
    try simp only [Act.put, List.getElem_toArray, List.getElem_cons_zero, List.getElem_cons_succ, List.setIfInBounds_toArray, List.set_cons_zero, List.set_cons_succ]
    refine upto_takeN (i := 4) (v := ?_) rfl (by kernel_rfl) (by kernel_rfl) (by kernel_rfl) (by kernel_rfl) (fun _ _ _ h => h) (by rfl) hS1 ?_ ?_
    rotate_left
    · intro wS hSw
      try dsimp only at hSw
      first | (go_simp; done) | (go_simp; with_reducible rfl)
    try simp only [Act.put, List.getElem_toArray, List.getElem_cons_zero, List.getElem_cons_succ, List.setIfInBounds_toArray, List.set_cons_zero, List.set_cons_succ]
    refine upto_step (i := 5) (by kernel_rfl) rfl ?_
    intro K hK
    go_simp
    refine (HV.out _).mono ?_
    rintro e w2 ⟨rfl, hb2⟩
    have hB2 : Below w.heap.size w w2 := bstep hB1 hb2
    have hS2 : (fun W => W.cell? ⟨w.heap.size, 0, none⟩ = some (.int .i64 ob) ∧ W.cell? ⟨w.heap.size, 1, none⟩ = some (.int .i64 ov)) w2 := ⟨cell_keep hb2 hS1.1, cell_keep hb2 hS1.2⟩
    refine hK _ _ (fun _ => hS2) ?_
    clear hK K
    try simp only [Act.put, List.getElem_toArray, List.getElem_cons_zero, List.getElem_cons_succ, List.setIfInBounds_toArray, List.set_cons_zero, List.set_cons_succ]
    refine upto_takeN (i := 6) (v := ?_) rfl (by kernel_rfl) (by kernel_rfl) (by kernel_rfl) (by kernel_rfl) (fun _ _ _ h => h) (by rfl) hS2 ?_ ?_
    rotate_left
    · intro wS hSw
      try dsimp only at hSw
      first | (go_simp; done) | (go_simp; with_reducible rfl)
    try simp only [Act.put, List.getElem_toArray, List.getElem_cons_zero, List.getElem_cons_succ, List.setIfInBounds_toArray, List.set_cons_zero, List.set_cons_succ]
    refine upto_takeN (i := 7) (v := ?_) rfl (by kernel_rfl) (by kernel_rfl) (by kernel_rfl) (by kernel_rfl) (fun _ _ _ h => h) (by rfl) hS2 ?_ ?_
    rotate_left
    · intro wS hSw
      try dsimp only at hSw
      first | (go_simp; done) | (go_simp; with_reducible rfl)
    try simp only [Act.put, List.getElem_toArray, List.getElem_cons_zero, List.getElem_cons_succ, List.setIfInBounds_toArray, List.set_cons_zero, List.set_cons_succ]
    refine upto_done (by kernel_rfl) ?_
    refine NoPanic.normal ?_
    go_wp2
    go_ret
    exact ⟨rfl, hB2⟩
  · rw [Bool.true_or]
    have hv := eqlVot ob ov (-1) 0
    rw [show (decide (ob = -1) && decide (ov = 0)) = true from h] at hv
    go_enter Try.func61, Try.ntmps61
    go_wp2
    refine wp_region_noPanic ?_
    refine region_upto (fun W => W.cell? ⟨w.heap.size, 0, none⟩ = some (.int .i64 ob) ∧ W.cell? ⟨w.heap.size, 1, none⟩ = some (.int .i64 ov)) 8 (by kernel_rfl) ⟨by simp [go_sem], by simp [go_sem]⟩ (fun hS => ?_)
    refine upto_takeN (i := 0) (v := ?_) rfl (by kernel_rfl) (by kernel_rfl) (by kernel_rfl) (by kernel_rfl) (fun _ _ _ h => h) (by rfl) hS ?_ ?_
    rotate_left
    · intro wS hSw
      try dsimp only at hSw
      first | (go_simp; done) | (go_simp; with_reducible rfl)
    try simp only [Act.put, List.getElem_toArray, List.getElem_cons_zero, List.getElem_cons_succ, List.setIfInBounds_toArray, List.set_cons_zero, List.set_cons_succ]
    refine upto_step (i := 1) (by kernel_rfl) rfl ?_
    intro K hK
    go_simp
    refine (noVote_any _).mono ?_
    rintro e w1 ⟨rfl, hb1⟩
    have hB1 : Below w.heap.size w w1 := bstep (by (repeat (first | exact Below.refl _ _ | assumption | refine Below.drew ?_ | refine balloc ?_ _ | refine bset ?_ (by simp; omega) _ | refine bset ?_ (by simp) _ | refine bstep ?_ (by assumption)))) hb1
    have hS1 : (fun W => W.cell? ⟨w.heap.size, 0, none⟩ = some (.int .i64 ob) ∧ W.cell? ⟨w.heap.size, 1, none⟩ = some (.int .i64 ov)) w1 := ⟨cell_keep hb1 (by simp [go_sem]), cell_keep hb1 (by simp [go_sem])⟩
    refine hK _ _ (fun _ => hS1) ?_
    clear hK K
    try simp only [Act.put, List.getElem_toArray, List.getElem_cons_zero, List.getElem_cons_succ, List.setIfInBounds_toArray, List.set_cons_zero, List.set_cons_succ]
    refine upto_takeN (i := 2) (v := (.bool true)) rfl (by kernel_rfl) (by kernel_rfl) (by kernel_rfl) (by kernel_rfl) (fun _ _ _ h => h) (by rfl) hS1 ?_ ?_
    · intro wS hSw
      try dsimp only at hSw
      go_simp
    try simp only [Act.put, List.getElem_toArray, List.getElem_cons_zero, List.getElem_cons_succ, List.setIfInBounds_toArray, List.set_cons_zero, List.set_cons_succ]
    refine upto_takeN (i := 3) (v := ?_) rfl (by kernel_rfl) (by kernel_rfl) (by kernel_rfl) (by kernel_rfl) (fun _ _ _ h => h) (by rfl) hS1 ?_ ?_
    rotate_left
    · intro wS hSw
      try dsimp only at hSw
      first | (go_simp; done) | (go_simp; with_reducible rfl)
    try simp only [Act.put, List.getElem_toArray, List.getElem_cons_zero, List.getElem_cons_succ, List.setIfInBounds_toArray, List.set_cons_zero, List.set_cons_succ]
    refine upto_skipN (i := 4) rfl (by kernel_rfl) (by kernel_rfl) (by kernel_rfl) (by kernel_rfl) (fun _ _ _ h => h) (by rfl) hS1 (fun q4 => ?_)
    try simp only [Act.put, List.getElem_toArray, List.getElem_cons_zero, List.getElem_cons_succ, List.setIfInBounds_toArray, List.set_cons_zero, List.set_cons_succ]
    refine upto_skipN (i := 5) rfl (by kernel_rfl) (by kernel_rfl) (by kernel_rfl) (by kernel_rfl) (fun _ _ _ h => h) (by rfl) hS1 (fun q5 => ?_)
    try simp only [Act.put, List.getElem_toArray, List.getElem_cons_zero, List.getElem_cons_succ, List.setIfInBounds_toArray, List.set_cons_zero, List.set_cons_succ]
    refine upto_takeN (i := 6) (v := ?_) rfl (by kernel_rfl) (by kernel_rfl) (by kernel_rfl) (by kernel_rfl) (fun _ _ _ h => h) (by rfl) hS1 ?_ ?_
    rotate_left
    · intro wS hSw
      try dsimp only at hSw
      first | (go_simp; done) | (go_simp; with_reducible rfl)
    try simp only [Act.put, List.getElem_toArray, List.getElem_cons_zero, List.getElem_cons_succ, List.setIfInBounds_toArray, List.set_cons_zero, List.set_cons_succ]
    refine upto_takeN (i := 7) (v := ?_) rfl (by kernel_rfl) (by kernel_rfl) (by kernel_rfl) (by kernel_rfl) (fun _ _ _ h => h) (by rfl) hS1 ?_ ?_
    rotate_left
    · intro wS hSw
      try dsimp only at hSw
      first | (go_simp; done) | (go_simp; with_reducible rfl)
    try simp only [Act.put, List.getElem_toArray, List.getElem_cons_zero, List.getElem_cons_succ, List.setIfInBounds_toArray, List.set_cons_zero, List.set_cons_succ]
    refine upto_done (by kernel_rfl) ?_
    refine NoPanic.normal ?_
    go_wp2
    go_ret
    exact ⟨rfl, hB1⟩
end Go.Proofs.Ytncmdeijimgchaa

/-
  PickValue, the program's.
-/
set_option linter.unusedSimpArgs false
namespace Go.Proofs.Ytncmdeijimgchaa
open Go.RowKit
set_option linter.unusedSectionVars false
variable [DecidableEq Vot] [Inhabited Vot] [DecidableEq Slt] [Inhabited Slt] [DecidableEq Bal] [Inhabited Bal] [DecidableEq Ledg] [Inhabited Ledg] [DecidableEq Leg] [Inhabited Leg]
attribute [local go_sem ↓] Go.wp_at_zero Go.wp_at_succ

set_option maxHeartbeats 4000000 in
theorem implPick_any (x : Value) (xs : List Vot) (own : Int) (w : World) (hx : votsR.V w x xs) :
    Calls Try.prog 18 #[x, .int .i64 own] w fun e w' => e = .returned (.agg #[.int .i64 (pickC xs own), .int .i64 (pickV xs own)]) ∧ Below w.heap.size w w' := by
  obtain ⟨ax, cx, rfl, hcx, hmx, hx⟩ := hx
  unfold maxLen at hmx
  by_cases h9 : 9 < xs.length
  · have e2 := pickC_many (own := own) h9
    rw [e2, pickV_of e2 (by omega)]
    go_enter Try.func18, Try.ntmps18
    go_wp2
    exact bodyPost_ret (v := .agg #[.int .i64 2, .int .i64 0]) (by simp [results, Try.results18, go_sem]) rfl ⟨rfl, by (repeat (first | exact Below.refl _ _ | assumption | refine Below.drew ?_ | refine balloc ?_ _ | refine bset ?_ (by simp; omega) _ | refine bset ?_ (by simp) _ | refine bstep ?_ (by assumption)))⟩
  obtain ⟨n, hn'⟩ : ∃ n, n = xs.length := ⟨_, rfl⟩
  have HN : Hid (xs.length = n) := hn'.symm
  rw [← hn'] at h9 hcx hx ⊢
  clear hn'
  go_enter Try.func18, Try.ntmps18
  go_wp2
  go_loopw [16] (fun i w' => ∃ k : Nat, k ≤ n ∧ i = .int .i64 k ∧ scanI (pickAt xs) k = 0 ∧ w'.cell? ⟨w.heap.size, 0, none⟩ = some (.int .i64 0) ∧ w'.cell? ⟨w.heap.size, 1, none⟩ = some (.int .i64 0) ∧ (∀ o, w'.frozen? ⟨w.heap.size, o, none⟩ = false) ∧ w'.cell? ⟨w.heap.size + 1, 0, none⟩ = some (.int .i64 (best own xs k).bal) ∧ w'.cell? ⟨w.heap.size + 1, 1, none⟩ = some (.int .i64 (best own xs k).val) ∧ (∀ o, w'.frozen? ⟨w.heap.size + 1, o, none⟩ = false) ∧ Below w.heap.size w w') (fun i _ => n - (intOf i).toNat)
  case atStart => exact ⟨0, Nat.zero_le _, rfl, rfl, by simp [go_sem], by simp [go_sem], by simp [go_sem], by simp [go_sem, best], by simp [go_sem, best], by simp [go_sem], by (repeat (first | exact Below.refl _ _ | assumption | refine Below.drew ?_ | refine balloc ?_ _ | refine bset ?_ (by simp; omega) _ | refine bset ?_ (by simp) _ | refine bstep ?_ (by assumption)))⟩
  case round =>
    obtain ⟨k, hk, rfl, hs, c0, c1, cf, e0, e1, ef, hbl⟩ := hrel
    have HS : Hid (scanI (pickAt xs) k = 0) := hs
    clear hs
    have z0 : w.heap.size < wr.heap.size := World.block_lt_of_cell? wr _ c0
    have z1 : w.heap.size + 1 < wr.heap.size := World.block_lt_of_cell? wr _ e0
    obtain ⟨q, hq⟩ : ∃ q, q = best own xs k := ⟨_, rfl⟩
    have HQ : Hid (best own xs k = q) := hq.symm
    rw [← hq] at e0 e1
    clear hq
    by_cases hlt : k < n
    · obtain ⟨bx, ox, rfl, g1⟩ := hx k hlt
      obtain ⟨l, hl⟩ : ∃ l, l = xs.getD k default := ⟨_, rfl⟩
      rw [← hl] at g1
      have HL : Hid (l = xs.getD k default) := hl
      clear hl
      obtain ⟨a1, a2⟩ := votCells_below hbl g1
      clear g1 hx
      have b0 : (wr.alloc (.cells #[.int .i64 l.bal, .int .i64 l.val] 54)).cell? ⟨wr.heap.size, 0, none⟩ = some (.int .i64 l.bal) := by simp [go_sem]
      have b1 : (wr.alloc (.cells #[.int .i64 l.bal, .int .i64 l.val] 54)).cell? ⟨wr.heap.size, 1, none⟩ = some (.int .i64 l.val) := by simp [go_sem]
      have hY1 : Below w.heap.size w (wr.alloc (.cells #[.int .i64 l.bal, .int .i64 l.val] 54)) := balloc hbl _
      have r0 := cell_keep (balloc (Below.refl _ wr) (.cells #[.int .i64 l.bal, .int .i64 l.val] 54)) c0
      have r1 := cell_keep (balloc (Below.refl _ wr) (.cells #[.int .i64 l.bal, .int .i64 l.val] 54)) c1
      have g0 := cell_keep (balloc (Below.refl _ wr) (.cells #[.int .i64 l.bal, .int .i64 l.val] 54)) e0
      have g1 := cell_keep (balloc (Below.refl _ wr) (.cells #[.int .i64 l.bal, .int .i64 l.val] 54)) e1
      have rf : ∀ o, (wr.alloc (.cells #[.int .i64 l.bal, .int .i64 l.val] 54)).frozen? ⟨w.heap.size, o, none⟩ = false := fun o => by rw [(bcell (balloc (Below.refl _ wr) (.cells #[.int .i64 l.bal, .int .i64 l.val] 54))).2 _ _ z0]; exact cf o
      have gf : ∀ o, (wr.alloc (.cells #[.int .i64 l.bal, .int .i64 l.val] 54)).frozen? ⟨w.heap.size + 1, o, none⟩ = false := fun o => by rw [(bcell (balloc (Below.refl _ wr) (.cells #[.int .i64 l.bal, .int .i64 l.val] 54))).2 _ _ z1]; exact ef o
      clear c0 c1 cf e0 e1 ef hbl
      cases v0 : (decide (l.bal = -1) && decide (l.val = 0))
      · cases v1 : votB l
        · go_wp2_with fail
          generalize wr.alloc (.cells #[.int .i64 l.bal, .int .i64 l.val] 54) = Y at *
          have y0 : w.heap.size < Y.heap.size := World.block_lt_of_cell? Y _ r0
          have y1 : w.heap.size + 1 < Y.heap.size := World.block_lt_of_cell? Y _ g0
          refine (isOld_any l.bal l.val _).mono ?_
          rintro e w3 ⟨rfl, hBr⟩
          rw [show oldB l.bal l.val = false by unfold oldB; rw [v0]; exact v1]
          replace b0 := cell_keep hBr b0
          replace b1 := cell_keep hBr b1
          replace r0 := cell_keep hBr r0
          replace r1 := cell_keep hBr r1
          replace g0 := cell_keep hBr g0
          replace g1 := cell_keep hBr g1
          replace rf : ∀ o, w3.frozen? ⟨w.heap.size, o, none⟩ = false := fun o => by rw [(bcell hBr).2 _ _ y0]; exact rf o
          replace gf : ∀ o, w3.frozen? ⟨w.heap.size + 1, o, none⟩ = false := fun o => by rw [(bcell hBr).2 _ _ y1]; exact gf o
          have hB3 := bstep hY1 hBr
          have x2 : wr.heap.size < w3.heap.size := World.block_lt_of_cell? w3 _ b0
          clear hBr hY1 y0 y1
          go_wp2
          refine bodyPost_ret (v := .agg #[.int .i64 3, .int .i64 0]) ?_ rfl ⟨?_, by (repeat (first | refine bset ?_ (by simp; omega) _ | refine bset ?_ (by simp) _ | refine balloc ?_ _ | assumption))⟩
          · simp [results, Try.results18, go_sem, r0, r1]
          · have e3 : pickC xs own = 3 := pickC_hit (by rw [HN.out]; omega) (by rw [HN.out]; exact hlt) HS.out (by rw [← HL.out]; exact v0) (by rw [← HL.out]; exact v1)
            rw [e3, pickV_of e3 (by omega)]
        · go_wp2_with fail
          generalize wr.alloc (.cells #[.int .i64 l.bal, .int .i64 l.val] 54) = Y at *
          have y0 : w.heap.size < Y.heap.size := World.block_lt_of_cell? Y _ r0
          have y1 : w.heap.size + 1 < Y.heap.size := World.block_lt_of_cell? Y _ g0
          refine (isOld_any l.bal l.val _).mono ?_
          rintro e w3 ⟨rfl, hBr⟩
          rw [show oldB l.bal l.val = true by unfold oldB; rw [v0]; exact v1]
          replace b0 := cell_keep hBr b0
          replace b1 := cell_keep hBr b1
          replace r0 := cell_keep hBr r0
          replace r1 := cell_keep hBr r1
          replace g0 := cell_keep hBr g0
          replace g1 := cell_keep hBr g1
          replace rf : ∀ o, w3.frozen? ⟨w.heap.size, o, none⟩ = false := fun o => by rw [(bcell hBr).2 _ _ y0]; exact rf o
          replace gf : ∀ o, w3.frozen? ⟨w.heap.size + 1, o, none⟩ = false := fun o => by rw [(bcell hBr).2 _ _ y1]; exact gf o
          have hB3 := bstep hY1 hBr
          have x2 : wr.heap.size < w3.heap.size := World.block_lt_of_cell? w3 _ b0
          clear hBr hY1 y0 y1
          have hst : Hid (best own xs (k + 1) = if q.bal < l.bal then l else q) := by show _ = _; rw [HL.out, ← HQ.out]; rfl
          go_wp2
          · rename_i hle
            refine ⟨⟨k + 1, by omega, by go_num, scanI_succ HS.out (pickAt_ok (by rw [← HL.out]; exact .inr v1)), by simp [go_sem, r0], by simp [go_sem, r1], by simp [go_sem, rf], ?_, ?_, by simp [go_sem, gf], ?_⟩, by simp [intOf]; omega⟩
            · rw [hst.out, if_pos hle]; simp [go_sem, g0]
            · rw [hst.out, if_pos hle]; simp [go_sem, g1]
            · exact bset (bset hB3 (by simp) _) (by simp) _
          · rename_i hle
            refine ⟨⟨k + 1, by omega, by go_num, scanI_succ HS.out (pickAt_ok (by rw [← HL.out]; exact .inr v1)), r0, r1, rf, ?_, ?_, gf, hB3⟩, by simp [intOf]; omega⟩
            · rw [hst.out, if_neg (by omega)]; exact g0
            · rw [hst.out, if_neg (by omega)]; exact g1
      · go_wp2_with fail
        generalize wr.alloc (.cells #[.int .i64 l.bal, .int .i64 l.val] 54) = Y at *
        have y0 : w.heap.size < Y.heap.size := World.block_lt_of_cell? Y _ r0
        have y1 : w.heap.size + 1 < Y.heap.size := World.block_lt_of_cell? Y _ g0
        refine (isOld_any l.bal l.val _).mono ?_
        rintro e w3 ⟨rfl, hBr⟩
        rw [show oldB l.bal l.val = true by unfold oldB; rw [v0]; rfl]
        replace b0 := cell_keep hBr b0
        replace b1 := cell_keep hBr b1
        replace r0 := cell_keep hBr r0
        replace r1 := cell_keep hBr r1
        replace g0 := cell_keep hBr g0
        replace g1 := cell_keep hBr g1
        replace rf : ∀ o, w3.frozen? ⟨w.heap.size, o, none⟩ = false := fun o => by rw [(bcell hBr).2 _ _ y0]; exact rf o
        replace gf : ∀ o, w3.frozen? ⟨w.heap.size + 1, o, none⟩ = false := fun o => by rw [(bcell hBr).2 _ _ y1]; exact gf o
        have hB3 := bstep hY1 hBr
        have x2 : wr.heap.size < w3.heap.size := World.block_lt_of_cell? w3 _ b0
        clear hBr hY1 y0 y1
        have hst : Hid (best own xs (k + 1) = if q.bal < l.bal then l else q) := by show _ = _; rw [HL.out, ← HQ.out]; rfl
        go_wp2
        · rename_i hle
          refine ⟨⟨k + 1, by omega, by go_num, scanI_succ HS.out (pickAt_ok (by rw [← HL.out]; exact .inl v0)), by simp [go_sem, r0], by simp [go_sem, r1], by simp [go_sem, rf], ?_, ?_, by simp [go_sem, gf], ?_⟩, by simp [intOf]; omega⟩
          · rw [hst.out, if_pos hle]; simp [go_sem, g0]
          · rw [hst.out, if_pos hle]; simp [go_sem, g1]
          · exact bset (bset hB3 (by simp) _) (by simp) _
        · rename_i hle
          refine ⟨⟨k + 1, by omega, by go_num, scanI_succ HS.out (pickAt_ok (by rw [← HL.out]; exact .inl v0)), r0, r1, rf, ?_, ?_, gf, hB3⟩, by simp [intOf]; omega⟩
          · rw [hst.out, if_neg (by omega)]; exact g0
          · rw [hst.out, if_neg (by omega)]; exact g1
    · have hkn : k = n := by omega
      subst hkn
      have HE : Hid (pickC xs own = if inB own 1 2 then 0 else 3) := pickC_own (by rw [HN.out]; omega) (by rw [HN.out]; exact HS.out)
      clear hx hlt
      cases v0 : inB own 1 2
      · go_wp2_with (go_at_call 62; refine (isValue_any _ _).mono ?_; rintro e w' ⟨rfl, rfl⟩; rw [v0])
        refine bodyPost_ret (v := .agg #[.int .i64 3, .int .i64 0]) ?_ rfl ⟨?_, by (repeat (first | refine bset ?_ (by simp; omega) _ | refine bset ?_ (by simp) _ | refine balloc ?_ _ | assumption))⟩
        · simp [results, Try.results18, go_sem, c0, c1]
        · have e3 : pickC xs own = 3 := by rw [HE.out, v0]; rfl
          rw [e3, pickV_of e3 (by omega)]
      · have e0' : Hid (pickC xs own = 0) := by show _ = _; rw [HE.out, v0]; rfl
        have eV : Hid (pickV xs own = q.val) := by show _ = _; unfold pickV; rw [e0'.out, if_pos rfl, HN.out, HQ.out]
        go_wp2_with (first | (go_at_call 62; refine (isValue_any _ _).mono ?_; rintro e w' ⟨rfl, rfl⟩; rw [v0]) | fail)
        refine bodyPost_ret (v := .agg #[.int .i64 0, .int .i64 q.val]) ?_ rfl ⟨by rw [e0'.out, eV.out], by (repeat (first | refine bset ?_ (by simp; omega) _ | refine bset ?_ (by simp) _ | refine balloc ?_ _ | assumption))⟩
        simp [results, Try.results18, go_sem, c0, c1]
end Go.Proofs.Ytncmdeijimgchaa

