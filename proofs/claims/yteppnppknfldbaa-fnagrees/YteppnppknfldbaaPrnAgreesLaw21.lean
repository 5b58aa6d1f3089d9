import Derived.Test.YteppnppknfldbaaPrnAgreesLaw17
import Derived.Test.YteppnppknfldbaaPrnAgreesLaw11
import Derived.Shelf.Abstract
import Derived.BigQuiet
import Derived.Deep.QuietTactic
import Derived.Deep.RegionHeld3
import Derived.Test.YteppnppknfldbaaPrnAgreesLaw4
import Derived.Test.YteppnppknfldbaaPrnAgreesLaw8
import Derived.Test.YteppnppknfldbaaPrnAgreesLaw7
import Derived.Test.YteppnppknfldbaaPrnAgreesLaw1
import Derived.Test.YteppnppknfldbaaPrnAgreesLaw19
import Derived.Deep.DrawnRows
import Derived.Test.YteppnppknfldbaaPrnAgreesLaw20

/-
  copiedAcceptors, the program's.
-/
set_option linter.unusedSimpArgs false
set_option linter.unusedVariables false
namespace Go.Proofs.Yteppnppknfldbaa
open Go.RowKit
set_option linter.unusedSectionVars false
variable [DecidableEq Vot] [Inhabited Vot] [DecidableEq Slt] [Inhabited Slt] [DecidableEq SltR] [Inhabited SltR] [DecidableEq Bal] [Inhabited Bal] [DecidableEq Ledg] [Inhabited Ledg] [DecidableEq Leg] [Inhabited Leg] [DecidableEq Acc] [Inhabited Acc] [DecidableEq AccR] [Inhabited AccR] [DecidableEq AccsR] [Inhabited AccsR] [DecidableEq SltsR] [Inhabited SltsR]
attribute [local go_sem ↓] Go.wp_at_zero Go.wp_at_succ

set_option maxRecDepth 20000 in
set_option maxHeartbeats 4000000 in
theorem copiedAccs_u (x : Value) (l : List Acc) (w : World) (hx : accsR.V w x l) (hl : ListOk l) :
    Calls Try.prog 13 #[x, .func (.func 14) #[] #[]] w fun e w' => ∃ v F, e = .returned v ∧ accsR.O w' w.heap.size F v l ∧ Below w.heap.size w w' := by
  obtain ⟨a, cx, rfl, hcx, hmx, hx⟩ := accs_at hx
  unfold maxLen at hmx
  have hXs : Hid (∀ k, k < l.length → ∃ b o p q, a = some ⟨b, o, none⟩ ∧ w.cell? ⟨b, o + k, none⟩ = some (.slice p (l.getD k default).slots.length q) ∧ accR.V w (.agg #[.slice p (l.getD k default).slots.length q]) (l.getD k default)) := hx
  have HOk : Hid (∀ k, k < l.length → AccOk (l.getD k default).slots) := fun k hk => accOk_of (hl.ok k hk)
  have hn5 := hl.hi
  clear hx hl
  obtain ⟨n, hn'⟩ : ∃ n, n = l.length := ⟨_, rfl⟩
  have HN : Hid (l.length = n) := hn'.symm
  rw [← hn'] at hcx hXs HOk hn5 ⊢
  clear hn'
  have hs0 : ∃ a c' F, (Value.slice none 0 0) = .slice a 0 c' ∧ accsR.O w w.heap.size F (.slice a 0 c') (l.take 0) := ⟨none, 0, _, rfl, accs_nil w _⟩
  have eg := enters_of Try.func14 (by kernel_rfl) rfl
  go_enter Try.func13, Try.ntmps13
  go_wp2
  go_loopw [5, 10] (fun t i w' => ∃ k : Nat, k ≤ n ∧ i = .int .i64 k ∧ (∃ a c' F, t = .slice a k c' ∧ accsR.O w' w.heap.size F (.slice a k c') (l.take k)) ∧ Below w.heap.size w w') (fun t i _ => n - (intOf i).toNat)
  case atStart => exact ⟨0, Nat.zero_le _, rfl, hs0, by (repeat (first | exact Below.refl _ _ | assumption | refine Below.drew ?_ | refine balloc ?_ _ | refine bset ?_ (by simp; omega) _ | refine bset ?_ (by simp) _ | refine bstep ?_ (by assumption)))⟩
  case round =>
    clear hs0
    obtain ⟨k, hk, rfl, ⟨as_, cs_, F, rfl, ho⟩, hbl⟩ := hrel
    have HO : Hid (accsR.O wr w.heap.size F (.slice as_ k cs_) (l.take k)) := ho
    clear ho
    have hwz := hbl.size
    by_cases hlt : k < n
    · obtain ⟨b, o, p, q, rfl, hc, hV⟩ := hXs.out k hlt
      have hok := HOk.out k hlt
      have HL : Hid (l.take (k + 1) = l.take k ++ [l.getD k default]) := take_accs l (by rw [HN.out]; exact hlt)
      replace hc := cell_keep hbl hc
      have zb : b < wr.heap.size := World.block_lt_of_cell? wr _ hc
      have HCp : Hid (∀ W, Below w.heap.size w W → Calls Try.prog 14 #[.agg #[.slice p (l.getD k default).slots.length q]] W fun e w' => ∃ v F, e = .returned v ∧ accR.O w' W.heap.size F v (l.getD k default) ∧ Below W.heap.size W w') := fun W hW => copiedAcc_u _ (l.getD k default) W (accR.below hV hW) (Nat.le_trans hok.len (by omega)) (fun j hj => Nat.le_trans (sltOk_of (hok.ok j hj)).len (by omega))
      clear hV hok
      generalize l.getD k default = y at *
      go_wp2_with fail
      refine (HCp.out _ (by (repeat (first | exact Below.refl _ _ | assumption | refine Below.drew ?_ | refine balloc ?_ _ | refine bset ?_ (by simp; omega) _ | refine bset ?_ (by simp) _ | refine bstep ?_ (by assumption))))).mono ?_
      rintro e w2 ⟨v2, F2, rfl, o2, hb2⟩
      obtain ⟨a2, c2, rfl, _⟩ := acc_cells o2
      have hB2 : Below wr.heap.size wr w2 := by (repeat (first | exact Below.refl _ _ | assumption | refine Below.drew ?_ | refine balloc ?_ _ | refine bset ?_ (by simp; omega) _ | refine bset ?_ (by simp) _ | refine bstep ?_ (by assumption)))
      have hBw : Below w.heap.size w w2 := bstep hbl hB2
      have hz2 := hB2.size
      have HO2 : Hid (accsR.O w2 w.heap.size F (.slice as_ k cs_) (l.take k)) := accsR.keep HO.out hB2
      have HFl : Hid (∀ b, F b → b < wr.heap.size) := fun b hb => (accsR.rng HO.out b hb).2
      have HF2 : Hid (∀ b, F2 b → wr.heap.size ≤ b) := fun b hb => by have := (accR.rng o2 b hb).1; first | exact this | (simp at this; omega)
      have HU : Hid (accR.O w2 w.heap.size F2 (.agg #[.slice a2 y.slots.length c2]) y) := accR.base o2 (by first | exact hwz | (simp; omega))
      clear hb2 o2 HCp HO hc
      go_wp2_with (at_builtin; refine wpl_appA _ rfl _ _ rfl w.heap.size F F2 _ (l.take k) y w2.heap.size a2 c2 rfl rfl ?a1 ?a2 ?a3 ?a4 ?a5 ?a6 ?_)
      case a1 => exact accsR.alloc HO2.out _
      case a2 => exact accR.alloc HU.out _
      case a3 => exact fun b h1 h2 => by have := HFl.out b h1; have := HF2.out b h2; omega
      case a4 => simp [go_sem]
      case a5 => rw [List.length_take, HN.out]; omega
      case a6 => simp; omega
      intro v3 w3 F3 o3 hb3 _
      rw [← HL.out] at o3
      obtain ⟨a3, c3, e3⟩ := accs_form (accsR.ofO o3)
      rw [show (l.take (k + 1)).length = k + 1 by rw [List.length_take, HN.out]; omega] at e3
      subst e3
      have o3' : ∃ a c' F, (Value.slice a3 (k + 1) c3) = .slice a (k + 1) c' ∧ accsR.O w3 w.heap.size F (.slice a (k + 1) c') (l.take (k + 1)) := ⟨_, _, F3, rfl, o3⟩
      have hB4 : Below w.heap.size w w3 := Below.trans (balloc hBw _) hb3
      clear o3 hb3
      go_wp2
      exact ⟨⟨k + 1, by omega, by go_num, o3', hB4⟩, by simp [intOf]; omega⟩
    · have hkn : k = n := by omega
      subst hkn
      have ho := HO.out
      rw [List.take_of_length_le (by rw [HN.out]; exact Nat.le_refl _)] at ho
      have HO2 : Hid (accsR.O wr w.heap.size F (.slice as_ k cs_) l) := ho
      clear ho HO
      go_wp2
      refine bodyPost_ret (v := .slice as_ k cs_) (by simp [results, Try.results13, go_sem]) rfl ⟨_, F, rfl, HO2.out, hbl⟩
end Go.Proofs.Yteppnppknfldbaa

/-
  What a slot may have as its last vote.
-/
set_option linter.unusedSimpArgs false
set_option linter.unusedVariables false
namespace Go.Proofs.Yteppnppknfldbaa
open Go.RowKit
set_option linter.unusedSectionVars false
variable [DecidableEq Vot] [Inhabited Vot] [DecidableEq Slt] [Inhabited Slt] [DecidableEq Bal] [Inhabited Bal] [DecidableEq Ledg] [Inhabited Ledg] [DecidableEq Leg] [Inhabited Leg]
attribute [local go_sem ↓] Go.wp_at_zero Go.wp_at_succ

def oldB (ob ov : Int) : Bool := (decide (ob = -1) && decide (ov = 0)) || (inB ob 0 1000 && inB ov 1 2)
set_option maxRecDepth 20000 in
set_option maxHeartbeats 2000000 in
theorem isOld_any (ob ov : Int) (w : World) : Calls Try.prog 32 #[.agg #[.int .i64 ob, .int .i64 ov]] w fun e w' => e = .returned (.bool (oldB ob ov)) ∧ Below w.heap.size w w' := by
  unfold oldB
  cases h : (decide (ob = -1) && decide (ov = 0))
  · rw [Bool.false_or]
    have HV : Hid (∀ W, Calls Try.prog 28 #[.agg #[.int .i64 ob, .int .i64 ov]] W fun e w' => e = .returned (.bool (inB ob 0 1000 && inB ov 1 2)) ∧ Below W.heap.size W w') := fun W => isVote_any ⟨ob, ov⟩ W
    generalize (inB ob 0 1000 && inB ov 1 2) = bb at *
    have hv := eqlVot ob ov (-1) 0
    rw [show (decide (ob = -1) && decide (ov = 0)) = false from h] at hv
    go_enter Try.func32, Try.ntmps32
    go_wp2
    refine wp_region_noPanic ?_
    refine region_upto (fun W => W.cell? ⟨w.heap.size, 0, none⟩ = some (.int .i64 ob) ∧ W.cell? ⟨w.heap.size, 1, none⟩ = some (.int .i64 ov)) 8 (by kernel_rfl) ⟨by simp [go_sem], by simp [go_sem]⟩ (fun hS => ?_)
    refine upto_takeN (i := 0) (v := ?_) rfl (by kernel_rfl) (by kernel_rfl) (by kernel_rfl) (by kernel_rfl) (fun _ _ _ h => h) (by rfl) hS ?_ ?_
    rotate_left
    · intro wS hSw
      try dsimp only at hSw
      first | (go_simp; done) | (go_simp; with_reducible rfl)
    try simp only [Act.put, List.getElem_toArray, List.getElem_cons_zero, List.getElem_cons_succ, List.setIfInBounds_toArray, List.set_cons_zero, List.set_cons_succ]
    refine upto_step (i := 1) (by kernel_rfl) rfl ?_
    intro K hK
    go_simp
    refine (noVote_any _).mono ?_
    rintro e w1 ⟨rfl, hb1⟩
    have hB1 : Below w.heap.size w w1 := bstep (by (repeat (first | exact Below.refl _ _ | assumption | refine Below.drew ?_ | refine balloc ?_ _ | refine bset ?_ (by simp; omega) _ | refine bset ?_ (by simp) _ | refine bstep ?_ (by assumption)))) hb1
    have hS1 : (fun W => W.cell? ⟨w.heap.size, 0, none⟩ = some (.int .i64 ob) ∧ W.cell? ⟨w.heap.size, 1, none⟩ = some (.int .i64 ov)) w1 := ⟨cell_keep hb1 (by simp [go_sem]), cell_keep hb1 (by simp [go_sem])⟩
    refine hK _ _ (fun _ => hS1) ?_
    clear hK K
    try simp only [Act.put, List.getElem_toArray, List.getElem_cons_zero, List.getElem_cons_succ, List.setIfInBounds_toArray, List.set_cons_zero, List.set_cons_succ]
    refine upto_takeN (i := 2) (v := (.bool false)) rfl (by kernel_rfl) (by kernel_rfl) (by kernel_rfl) (by kernel_rfl) (fun _ _ _ h => h) (by rfl) hS1 ?_ ?_
    · intro wS hSw
      try dsimp only at hSw
      go_simp
    try simp only [Act.put, List.getElem_toArray, List.getElem_cons_zero, List.getElem_cons_succ, List.setIfInBounds_toArray, List.set_cons_zero, List.set_cons_succ]
    refine upto_takeN (i := 3) (v := ?_) rfl (by kernel_rfl) (by kernel_rfl) (by kernel_rfl) (by kernel_rfl) (fun _ _ _ h => h) (by rfl) hS1 ?_ ?_
    rotate_left
    · intro wS hSw
      try dsimp only at hSw
      first | (go_simp; done) | (go_simp; with_reducible rfl)
    try simp only [Act.put, List.getElem_toArray, List.getElem_cons_zero, List.getElem_cons_succ, List.setIfInBounds_toArray, List.set_cons_zero, List.set_cons_succ]
    refine upto_takeN (i := 4) (v := ?_) rfl (by kernel_rfl) (by kernel_rfl) (by kernel_rfl) (by kernel_rfl) (fun _ _ _ h => h) (by rfl) hS1 ?_ ?_
    rotate_left
    · intro wS hSw
      try dsimp only at hSw
      first | (go_simp; done) | (go_simp; with_reducible rfl)
    try simp only [Act.put, List.getElem_toArray, List.getElem_cons_zero, List.getElem_cons_succ, List.setIfInBounds_toArray, List.set_cons_zero, List.set_cons_succ]
    refine upto_step (i := 5) (by kernel_rfl) rfl ?_
    intro K hK
    go_simp
    refine (HV.out _).mono ?_
    rintro e w2 ⟨rfl, hb2⟩
    have hB2 : Below w.heap.size w w2 := bstep hB1 hb2
    have hS2 : (fun W => W.cell? ⟨w.heap.size, 0, none⟩ = some (.int .i64 ob) ∧ W.cell? ⟨w.heap.size, 1, none⟩ = some (.int .i64 ov)) w2 := ⟨cell_keep hb2 hS1.1, cell_keep hb2 hS1.2⟩
    refine hK _ _ (fun _ => hS2) ?_
    clear hK K
    try simp only [Act.put, List.getElem_toArray, List.getElem_cons_zero, List.getElem_cons_succ, List.setIfInBounds_toArray, List.set_cons_zero, List.set_cons_succ]
    refine upto_takeN (i := 6) (v := ?_) rfl (by kernel_rfl) (by kernel_rfl) (by kernel_rfl) (by kernel_rfl) (fun _ _ _ h => h) (by rfl) hS2 ?_ ?_
    rotate_left
    · intro wS hSw
      try dsimp only at hSw
      first | (go_simp; done) | (go_simp; with_reducible rfl)
    try simp only [Act.put, List.getElem_toArray, List.getElem_cons_zero, List.getElem_cons_succ, List.setIfInBounds_toArray, List.set_cons_zero, List.set_cons_succ]
    refine upto_takeN (i := 7) (v := ?_) rfl (by kernel_rfl) (by kernel_rfl) (by kernel_rfl) (by kernel_rfl) (fun _ _ _ h => h) (by rfl) hS2 ?_ ?_
    rotate_left
    · intro wS hSw
      try dsimp only at hSw
      first | (go_simp; done) | (go_simp; with_reducible rfl)
    try simp only [Act.put, List.getElem_toArray, List.getElem_cons_zero, List.getElem_cons_succ, List.setIfInBounds_toArray, List.set_cons_zero, List.set_cons_succ]
    refine upto_done (by kernel_rfl) ?_
    refine NoPanic.normal ?_
    go_wp2
    go_ret
    exact ⟨rfl, hB2⟩
  · rw [Bool.true_or]
    have hv := eqlVot ob ov (-1) 0
    rw [show (decide (ob = -1) && decide (ov = 0)) = true from h] at hv
    go_enter Try.func32, Try.ntmps32
    go_wp2
    refine wp_region_noPanic ?_
    refine region_upto (fun W => W.cell? ⟨w.heap.size, 0, none⟩ = some (.int .i64 ob) ∧ W.cell? ⟨w.heap.size, 1, none⟩ = some (.int .i64 ov)) 8 (by kernel_rfl) ⟨by simp [go_sem], by simp [go_sem]⟩ (fun hS => ?_)
    refine upto_takeN (i := 0) (v := ?_) rfl (by kernel_rfl) (by kernel_rfl) (by kernel_rfl) (by kernel_rfl) (fun _ _ _ h => h) (by rfl) hS ?_ ?_
    rotate_left
    · intro wS hSw
      try dsimp only at hSw
      first | (go_simp; done) | (go_simp; with_reducible rfl)
    try simp only [Act.put, List.getElem_toArray, List.getElem_cons_zero, List.getElem_cons_succ, List.setIfInBounds_toArray, List.set_cons_zero, List.set_cons_succ]
    refine upto_step (i := 1) (by kernel_rfl) rfl ?_
    intro K hK
    go_simp
    refine (noVote_any _).mono ?_
    rintro e w1 ⟨rfl, hb1⟩
    have hB1 : Below w.heap.size w w1 := bstep (by (repeat (first | exact Below.refl _ _ | assumption | refine Below.drew ?_ | refine balloc ?_ _ | refine bset ?_ (by simp; omega) _ | refine bset ?_ (by simp) _ | refine bstep ?_ (by assumption)))) hb1
    have hS1 : (fun W => W.cell? ⟨w.heap.size, 0, none⟩ = some (.int .i64 ob) ∧ W.cell? ⟨w.heap.size, 1, none⟩ = some (.int .i64 ov)) w1 := ⟨cell_keep hb1 (by simp [go_sem]), cell_keep hb1 (by simp [go_sem])⟩
    refine hK _ _ (fun _ => hS1) ?_
    clear hK K
    try simp only [Act.put, List.getElem_toArray, List.getElem_cons_zero, List.getElem_cons_succ, List.setIfInBounds_toArray, List.set_cons_zero, List.set_cons_succ]
    refine upto_takeN (i := 2) (v := (.bool true)) rfl (by kernel_rfl) (by kernel_rfl) (by kernel_rfl) (by kernel_rfl) (fun _ _ _ h => h) (by rfl) hS1 ?_ ?_
    · intro wS hSw
      try dsimp only at hSw
      go_simp
    try simp only [Act.put, List.getElem_toArray, List.getElem_cons_zero, List.getElem_cons_succ, List.setIfInBounds_toArray, List.set_cons_zero, List.set_cons_succ]
    refine upto_takeN (i := 3) (v := ?_) rfl (by kernel_rfl) (by kernel_rfl) (by kernel_rfl) (by kernel_rfl) (fun _ _ _ h => h) (by rfl) hS1 ?_ ?_
    rotate_left
    · intro wS hSw
      try dsimp only at hSw
      first | (go_simp; done) | (go_simp; with_reducible rfl)
    try simp only [Act.put, List.getElem_toArray, List.getElem_cons_zero, List.getElem_cons_succ, List.setIfInBounds_toArray, List.set_cons_zero, List.set_cons_succ]
    refine upto_skipN (i := 4) rfl (by kernel_rfl) (by kernel_rfl) (by kernel_rfl) (by kernel_rfl) (fun _ _ _ h => h) (by rfl) hS1 (fun q4 => ?_)
    try simp only [Act.put, List.getElem_toArray, List.getElem_cons_zero, List.getElem_cons_succ, List.setIfInBounds_toArray, List.set_cons_zero, List.set_cons_succ]
    refine upto_skipN (i := 5) rfl (by kernel_rfl) (by kernel_rfl) (by kernel_rfl) (by kernel_rfl) (fun _ _ _ h => h) (by rfl) hS1 (fun q5 => ?_)
    try simp only [Act.put, List.getElem_toArray, List.getElem_cons_zero, List.getElem_cons_succ, List.setIfInBounds_toArray, List.set_cons_zero, List.set_cons_succ]
    refine upto_takeN (i := 6) (v := ?_) rfl (by kernel_rfl) (by kernel_rfl) (by kernel_rfl) (by kernel_rfl) (fun _ _ _ h => h) (by rfl) hS1 ?_ ?_
    rotate_left
    · intro wS hSw
      try dsimp only at hSw
      first | (go_simp; done) | (go_simp; with_reducible rfl)
    try simp only [Act.put, List.getElem_toArray, List.getElem_cons_zero, List.getElem_cons_succ, List.setIfInBounds_toArray, List.set_cons_zero, List.set_cons_succ]
    refine upto_takeN (i := 7) (v := ?_) rfl (by kernel_rfl) (by kernel_rfl) (by kernel_rfl) (by kernel_rfl) (fun _ _ _ h => h) (by rfl) hS1 ?_ ?_
    rotate_left
    · intro wS hSw
      try dsimp only at hSw
      first | (go_simp; done) | (go_simp; with_reducible rfl)
    try simp only [Act.put, List.getElem_toArray, List.getElem_cons_zero, List.getElem_cons_succ, List.setIfInBounds_toArray, List.set_cons_zero, List.set_cons_succ]
    refine upto_done (by kernel_rfl) ?_
    refine NoPanic.normal ?_
    go_wp2
    go_ret
    exact ⟨rfl, hB1⟩
end Go.Proofs.Yteppnppknfldbaa

/-
  PickValue, the program's.
-/
set_option linter.unusedSimpArgs false
namespace Go.Proofs.Yteppnppknfldbaa
open Go.RowKit
set_option linter.unusedSectionVars false
variable [DecidableEq Vot] [Inhabited Vot] [DecidableEq Slt] [Inhabited Slt] [DecidableEq Bal] [Inhabited Bal] [DecidableEq Ledg] [Inhabited Ledg] [DecidableEq Leg] [Inhabited Leg]
attribute [local go_sem ↓] Go.wp_at_zero Go.wp_at_succ

set_option maxHeartbeats 4000000 in
theorem implPick_any (x : Value) (xs : List Vot) (own : Int) (w : World) (hx : votsR.V w x xs) :
    Calls Try.prog 17 #[x, .int .i64 own] w fun e w' => e = .returned (.agg #[.int .i64 (pickC xs own), .int .i64 (pickV xs own)]) ∧ Below w.heap.size w w' := by
  obtain ⟨ax, cx, rfl, hcx, hmx, hx⟩ := hx
  unfold maxLen at hmx
  by_cases h9 : 9 < xs.length
  · have e2 := pickC_many (own := own) h9
    rw [e2, pickV_of e2 (by omega)]
    go_enter Try.func17, Try.ntmps17
    go_wp2
    exact bodyPost_ret (v := .agg #[.int .i64 2, .int .i64 0]) (by simp [results, Try.results17, go_sem]) rfl ⟨rfl, by (repeat (first | exact Below.refl _ _ | assumption | refine Below.drew ?_ | refine balloc ?_ _ | refine bset ?_ (by simp; omega) _ | refine bset ?_ (by simp) _ | refine bstep ?_ (by assumption)))⟩
  obtain ⟨n, hn'⟩ : ∃ n, n = xs.length := ⟨_, rfl⟩
  have HN : Hid (xs.length = n) := hn'.symm
  rw [← hn'] at h9 hcx hx ⊢
  clear hn'
  go_enter Try.func17, Try.ntmps17
  go_wp2
  go_loopw [16] (fun i w' => ∃ k : Nat, k ≤ n ∧ i = .int .i64 k ∧ scanI (pickAt xs) k = 0 ∧ w'.cell? ⟨w.heap.size, 0, none⟩ = some (.int .i64 0) ∧ w'.cell? ⟨w.heap.size, 1, none⟩ = some (.int .i64 0) ∧ (∀ o, w'.frozen? ⟨w.heap.size, o, none⟩ = false) ∧ w'.cell? ⟨w.heap.size + 1, 0, none⟩ = some (.int .i64 (best own xs k).bal) ∧ w'.cell? ⟨w.heap.size + 1, 1, none⟩ = some (.int .i64 (best own xs k).val) ∧ (∀ o, w'.frozen? ⟨w.heap.size + 1, o, none⟩ = false) ∧ Below w.heap.size w w') (fun i _ => n - (intOf i).toNat)
  case atStart => exact ⟨0, Nat.zero_le _, rfl, rfl, by simp [go_sem], by simp [go_sem], by simp [go_sem], by simp [go_sem, best], by simp [go_sem, best], by simp [go_sem], by (repeat (first | exact Below.refl _ _ | assumption | refine Below.drew ?_ | refine balloc ?_ _ | refine bset ?_ (by simp; omega) _ | refine bset ?_ (by simp) _ | refine bstep ?_ (by assumption)))⟩
  case round =>
    obtain ⟨k, hk, rfl, hs, c0, c1, cf, e0, e1, ef, hbl⟩ := hrel
    have HS : Hid (scanI (pickAt xs) k = 0) := hs
    clear hs
    have z0 : w.heap.size < wr.heap.size := World.block_lt_of_cell? wr _ c0
    have z1 : w.heap.size + 1 < wr.heap.size := World.block_lt_of_cell? wr _ e0
    obtain ⟨q, hq⟩ : ∃ q, q = best own xs k := ⟨_, rfl⟩
    have HQ : Hid (best own xs k = q) := hq.symm
    rw [← hq] at e0 e1
    clear hq
    by_cases hlt : k < n
    · obtain ⟨bx, ox, rfl, g1⟩ := hx k hlt
      obtain ⟨l, hl⟩ : ∃ l, l = xs.getD k default := ⟨_, rfl⟩
      rw [← hl] at g1
      have HL : Hid (l = xs.getD k default) := hl
      clear hl
      obtain ⟨a1, a2⟩ := votCells_below hbl g1
      clear g1 hx
      have b0 : (wr.alloc (.cells #[.int .i64 l.bal, .int .i64 l.val] 40)).cell? ⟨wr.heap.size, 0, none⟩ = some (.int .i64 l.bal) := by simp [go_sem]
      have b1 : (wr.alloc (.cells #[.int .i64 l.bal, .int .i64 l.val] 40)).cell? ⟨wr.heap.size, 1, none⟩ = some (.int .i64 l.val) := by simp [go_sem]
      have hY1 : Below w.heap.size w (wr.alloc (.cells #[.int .i64 l.bal, .int .i64 l.val] 40)) := balloc hbl _
      have r0 := cell_keep (balloc (Below.refl _ wr) (.cells #[.int .i64 l.bal, .int .i64 l.val] 40)) c0
      have r1 := cell_keep (balloc (Below.refl _ wr) (.cells #[.int .i64 l.bal, .int .i64 l.val] 40)) c1
      have g0 := cell_keep (balloc (Below.refl _ wr) (.cells #[.int .i64 l.bal, .int .i64 l.val] 40)) e0
      have g1 := cell_keep (balloc (Below.refl _ wr) (.cells #[.int .i64 l.bal, .int .i64 l.val] 40)) e1
      have rf : ∀ o, (wr.alloc (.cells #[.int .i64 l.bal, .int .i64 l.val] 40)).frozen? ⟨w.heap.size, o, none⟩ = false := fun o => by rw [(bcell (balloc (Below.refl _ wr) (.cells #[.int .i64 l.bal, .int .i64 l.val] 40))).2 _ _ z0]; exact cf o
      have gf : ∀ o, (wr.alloc (.cells #[.int .i64 l.bal, .int .i64 l.val] 40)).frozen? ⟨w.heap.size + 1, o, none⟩ = false := fun o => by rw [(bcell (balloc (Below.refl _ wr) (.cells #[.int .i64 l.bal, .int .i64 l.val] 40))).2 _ _ z1]; exact ef o
      clear c0 c1 cf e0 e1 ef hbl
      cases v0 : (decide (l.bal = -1) && decide (l.val = 0))
      · cases v1 : votB l
        · go_wp2_with fail
          generalize wr.alloc (.cells #[.int .i64 l.bal, .int .i64 l.val] 40) = Y at *
          have y0 : w.heap.size < Y.heap.size := World.block_lt_of_cell? Y _ r0
          have y1 : w.heap.size + 1 < Y.heap.size := World.block_lt_of_cell? Y _ g0
          refine (isOld_any l.bal l.val _).mono ?_
          rintro e w3 ⟨rfl, hBr⟩
          rw [show oldB l.bal l.val = false by unfold oldB; rw [v0]; exact v1]
          replace b0 := cell_keep hBr b0
          replace b1 := cell_keep hBr b1
          replace r0 := cell_keep hBr r0
          replace r1 := cell_keep hBr r1
          replace g0 := cell_keep hBr g0
          replace g1 := cell_keep hBr g1
          replace rf : ∀ o, w3.frozen? ⟨w.heap.size, o, none⟩ = false := fun o => by rw [(bcell hBr).2 _ _ y0]; exact rf o
          replace gf : ∀ o, w3.frozen? ⟨w.heap.size + 1, o, none⟩ = false := fun o => by rw [(bcell hBr).2 _ _ y1]; exact gf o
          have hB3 := bstep hY1 hBr
          have x2 : wr.heap.size < w3.heap.size := World.block_lt_of_cell? w3 _ b0
          clear hBr hY1 y0 y1
          go_wp2
          refine bodyPost_ret (v := .agg #[.int .i64 3, .int .i64 0]) ?_ rfl ⟨?_, by (repeat (first | refine bset ?_ (by simp; omega) _ | refine bset ?_ (by simp) _ | refine balloc ?_ _ | assumption))⟩
          · simp [results, Try.results17, go_sem, r0, r1]
          · have e3 : pickC xs own = 3 := pickC_hit (by rw [HN.out]; omega) (by rw [HN.out]; exact hlt) HS.out (by rw [← HL.out]; exact v0) (by rw [← HL.out]; exact v1)
            rw [e3, pickV_of e3 (by omega)]
        · go_wp2_with fail
          generalize wr.alloc (.cells #[.int .i64 l.bal, .int .i64 l.val] 40) = Y at *
          have y0 : w.heap.size < Y.heap.size := World.block_lt_of_cell? Y _ r0
          have y1 : w.heap.size + 1 < Y.heap.size := World.block_lt_of_cell? Y _ g0
          refine (isOld_any l.bal l.val _).mono ?_
          rintro e w3 ⟨rfl, hBr⟩
          rw [show oldB l.bal l.val = true by unfold oldB; rw [v0]; exact v1]
          replace b0 := cell_keep hBr b0
          replace b1 := cell_keep hBr b1
          replace r0 := cell_keep hBr r0
          replace r1 := cell_keep hBr r1
          replace g0 := cell_keep hBr g0
          replace g1 := cell_keep hBr g1
          replace rf : ∀ o, w3.frozen? ⟨w.heap.size, o, none⟩ = false := fun o => by rw [(bcell hBr).2 _ _ y0]; exact rf o
          replace gf : ∀ o, w3.frozen? ⟨w.heap.size + 1, o, none⟩ = false := fun o => by rw [(bcell hBr).2 _ _ y1]; exact gf o
          have hB3 := bstep hY1 hBr
          have x2 : wr.heap.size < w3.heap.size := World.block_lt_of_cell? w3 _ b0
          clear hBr hY1 y0 y1
          have hst : Hid (best own xs (k + 1) = if q.bal < l.bal then l else q) := by show _ = _; rw [HL.out, ← HQ.out]; rfl
          go_wp2
          · rename_i hle
            refine ⟨⟨k + 1, by omega, by go_num, scanI_succ HS.out (pickAt_ok (by rw [← HL.out]; exact .inr v1)), by simp [go_sem, r0], by simp [go_sem, r1], by simp [go_sem, rf], ?_, ?_, by simp [go_sem, gf], ?_⟩, by simp [intOf]; omega⟩
            · rw [hst.out, if_pos hle]; simp [go_sem, g0]
            · rw [hst.out, if_pos hle]; simp [go_sem, g1]
            · exact bset (bset hB3 (by simp) _) (by simp) _
          · rename_i hle
            refine ⟨⟨k + 1, by omega, by go_num, scanI_succ HS.out (pickAt_ok (by rw [← HL.out]; exact .inr v1)), r0, r1, rf, ?_, ?_, gf, hB3⟩, by simp [intOf]; omega⟩
            · rw [hst.out, if_neg (by omega)]; exact g0
            · rw [hst.out, if_neg (by omega)]; exact g1
      · go_wp2_with fail
        generalize wr.alloc (.cells #[.int .i64 l.bal, .int .i64 l.val] 40) = Y at *
        have y0 : w.heap.size < Y.heap.size := World.block_lt_of_cell? Y _ r0
        have y1 : w.heap.size + 1 < Y.heap.size := World.block_lt_of_cell? Y _ g0
        refine (isOld_any l.bal l.val _).mono ?_
        rintro e w3 ⟨rfl, hBr⟩
        rw [show oldB l.bal l.val = true by unfold oldB; rw [v0]; rfl]
        replace b0 := cell_keep hBr b0
        replace b1 := cell_keep hBr b1
        replace r0 := cell_keep hBr r0
        replace r1 := cell_keep hBr r1
        replace g0 := cell_keep hBr g0
        replace g1 := cell_keep hBr g1
        replace rf : ∀ o, w3.frozen? ⟨w.heap.size, o, none⟩ = false := fun o => by rw [(bcell hBr).2 _ _ y0]; exact rf o
        replace gf : ∀ o, w3.frozen? ⟨w.heap.size + 1, o, none⟩ = false := fun o => by rw [(bcell hBr).2 _ _ y1]; exact gf o
        have hB3 := bstep hY1 hBr
        have x2 : wr.heap.size < w3.heap.size := World.block_lt_of_cell? w3 _ b0
        clear hBr hY1 y0 y1
        have hst : Hid (best own xs (k + 1) = if q.bal < l.bal then l else q) := by show _ = _; rw [HL.out, ← HQ.out]; rfl
        go_wp2
        · rename_i hle
          refine ⟨⟨k + 1, by omega, by go_num, scanI_succ HS.out (pickAt_ok (by rw [← HL.out]; exact .inl v0)), by simp [go_sem, r0], by simp [go_sem, r1], by simp [go_sem, rf], ?_, ?_, by simp [go_sem, gf], ?_⟩, by simp [intOf]; omega⟩
          · rw [hst.out, if_pos hle]; simp [go_sem, g0]
          · rw [hst.out, if_pos hle]; simp [go_sem, g1]
          · exact bset (bset hB3 (by simp) _) (by simp) _
        · rename_i hle
          refine ⟨⟨k + 1, by omega, by go_num, scanI_succ HS.out (pickAt_ok (by rw [← HL.out]; exact .inl v0)), r0, r1, rf, ?_, ?_, gf, hB3⟩, by simp [intOf]; omega⟩
          · rw [hst.out, if_neg (by omega)]; exact g0
          · rw [hst.out, if_neg (by omega)]; exact g1
    · have hkn : k = n := by omega
      subst hkn
      have HE : Hid (pickC xs own = if inB own 1 2 then 0 else 3) := pickC_own (by rw [HN.out]; omega) (by rw [HN.out]; exact HS.out)
      clear hx hlt
      cases v0 : inB own 1 2
      · go_wp2_with (go_at_call 33; refine (isValue_any _ _).mono ?_; rintro e w' ⟨rfl, rfl⟩; rw [v0])
        refine bodyPost_ret (v := .agg #[.int .i64 3, .int .i64 0]) ?_ rfl ⟨?_, by (repeat (first | refine bset ?_ (by simp; omega) _ | refine bset ?_ (by simp) _ | refine balloc ?_ _ | assumption))⟩
        · simp [results, Try.results17, go_sem, c0, c1]
        · have e3 : pickC xs own = 3 := by rw [HE.out, v0]; rfl
          rw [e3, pickV_of e3 (by omega)]
      · have e0' : Hid (pickC xs own = 0) := by show _ = _; rw [HE.out, v0]; rfl
        have eV : Hid (pickV xs own = q.val) := by show _ = _; unfold pickV; rw [e0'.out, if_pos rfl, HN.out, HQ.out]
        go_wp2_with (first | (go_at_call 33; refine (isValue_any _ _).mono ?_; rintro e w' ⟨rfl, rfl⟩; rw [v0]) | fail)
        refine bodyPost_ret (v := .agg #[.int .i64 0, .int .i64 q.val]) ?_ rfl ⟨by rw [e0'.out, eV.out], by (repeat (first | refine bset ?_ (by simp; omega) _ | refine bset ?_ (by simp) _ | refine balloc ?_ _ | assumption))⟩
        simp [results, Try.results17, go_sem, c0, c1]
end Go.Proofs.Yteppnppknfldbaa

/-
  RunBallot, the program's.
-/
set_option linter.unusedSimpArgs false
set_option linter.unusedVariables false
namespace Go.Proofs.Yteppnppknfldbaa
open Go.RowKit
set_option linter.unusedSectionVars false
variable [DecidableEq Vot] [Inhabited Vot] [DecidableEq Slt] [Inhabited Slt] [DecidableEq SltR] [Inhabited SltR] [DecidableEq Bal] [Inhabited Bal] [DecidableEq Ledg] [Inhabited Ledg] [DecidableEq Leg] [Inhabited Leg] [DecidableEq Acc] [Inhabited Acc] [DecidableEq AccR] [Inhabited AccR] [DecidableEq AccsR] [Inhabited AccsR] [DecidableEq SltsR] [Inhabited SltsR]
attribute [local go_sem ↓] Go.wp_at_zero Go.wp_at_succ

def RunE (r : AccsR) (w : World) (e : Ending) (w' : World) : Prop := ∃ v F, e = .returned v ∧ accsRR.O w' w.heap.size F v r ∧ Below w.heap.size w w'
theorem runE_err {r : AccsR} {c : Int} {w w' : World} (h : r = ⟨c, 0, []⟩) (hb : Below w.heap.size w w') : RunE r w (.returned (.agg #[.int .i64 c, .int .i64 0, .slice none 0 0])) w' :=
  ⟨_, _, rfl, by rw [h]; exact ⟨_, _, rfl, accs_nil w' w.heap.size, fun _ => Iff.rfl⟩, hb⟩
theorem runE_ok {r : AccsR} {c v : Int} {l : List Acc} {u : Value} {F : Nat → Prop} {w w' : World} (h : r = ⟨c, v, l⟩) (ho : accsR.O w' w.heap.size F u l) (hb : Below w.heap.size w w') : RunE r w (.returned (.agg #[.int .i64 c, .int .i64 v, u])) w' :=
  ⟨_, F, rfl, by rw [h]; exact ⟨_, F, rfl, ho, fun _ => Iff.rfl⟩, hb⟩
set_option maxRecDepth 20000 in
set_option maxHeartbeats 8000000 in
theorem implRun_u (x xr : Value) (l : List Acc) (R : List Int) (c s b own : Int) (w : World) (hx : accsR.V w x l) (hr : IntsV w xr R) :
    Calls Try.prog 6 #[x, xr, .int .i64 c, .int .i64 s, .int .i64 b, .int .i64 own] w (RunE (runD l R c s b own) w) := by
  have HFr : Hid (∀ W, Below w.heap.size w W → Calls Try.prog 11 #[x, .int .i64 c, .int .i64 s] W (FreE l c s W)) := fun W hW => freshFor_u x l c s W (accsR.below hx hW)
  have HBf : Hid (∀ W, Below w.heap.size w W → ListOk l → Calls Try.prog 12 #[xr, .int .i64 l.length, .agg #[.int .i64 b, .int .i64 own]] W fun e w' => e = .returned (.int .i64 (balF R l.length b own)) ∧ Below W.heap.size W w') := fun W hW hl => implBalF_any xr R l.length b own W (IntsV_below hr hW) (by have := hl.hi; omega)
  have HCp : Hid (∀ W, Below w.heap.size w W → ListOk l → Calls Try.prog 13 #[x, .func (.func 14) #[] #[]] W fun e w' => ∃ v F, e = .returned v ∧ accsR.O w' W.heap.size F v l ∧ Below W.heap.size W w') := fun W hW hl => copiedAccs_u x l W (accsR.below hx hW) hl
  have HPs : Hid (∀ W x' base F, Below w.heap.size w W → w.heap.size ≤ base → base ≤ W.heap.size → ListOk l → BalOk R l.length b own → accsR.O W base F x' l → Calls Try.prog 15 #[x', xr, .int .i64 c, .int .i64 s, .int .i64 b] W (PsE x' (prN l R c s b R.length) base F W)) := fun W x' base F hW h1 h2 hl hb ho => promises_any x' xr l R c s b base F w W ho hW h1 h2 hr hb.inn hl.lo (by have := hb.len; have := hl.hi; omega)
  obtain ⟨a, cx, rfl⟩ := accs_form hx
  obtain ⟨ar, cr, rfl, _, _, _⟩ := hr
  clear hx
  have hD0 : Hid (¬ freC l c s = 0 → runD l R c s b own = ⟨freC l c s, 0, []⟩) := fun h => by unfold runD; rw [if_neg h]
  have hD1 : Hid (freC l c s = 0 → ¬ balF R l.length b own = 0 → runD l R c s b own = ⟨balF R l.length b own, 0, []⟩) := fun h h1 => by unfold runD; rw [if_pos h, if_neg h1]
  have hD2 : Hid (freC l c s = 0 → balF R l.length b own = 0 → ((prN l R c s b R.length).did.length : Int) < quoV l.length → runD l R c s b own = ⟨4, 0, (prN l R c s b R.length).accs⟩) := fun h h1 h2 => by unfold runD; rw [if_pos h, if_pos h1, if_pos h2]
  have hD3 : Hid (freC l c s = 0 → balF R l.length b own = 0 → quoV l.length ≤ ((prN l R c s b R.length).did.length : Int) → runD l R c s b own = ⟨0, (best own (prN l R c s b R.length).old (prN l R c s b R.length).old.length).val, acN (prN l R c s b R.length).accs (prN l R c s b R.length).did c s b (best own (prN l R c s b R.length).old (prN l R c s b R.length).old.length).val (prN l R c s b R.length).did.length⟩) := fun h h1 h2 => by unfold runD; rw [if_pos h, if_pos h1, if_neg (by omega)]
  have HLen : Hid (∀ k, (prN l R c s b k).accs.length = l.length) := fun k => prN_len l R c s b k
  have HDid : Hid (∀ k, (prN l R c s b k).did.length ≤ k ∧ (prN l R c s b k).old.length = (prN l R c s b k).did.length) := fun k => prN_did l R c s b k
  have HOld : Hid (∀ k, ∀ v ∈ (prN l R c s b k).old, isNo v = true ∨ votB v = true) := fun k => prN_old l R c s b k
  have HPin : Hid (BalOk R l.length b own → ∀ a ∈ (prN l R c s b R.length).did, 0 ≤ a ∧ a < l.length) := fun h => prN_in l R c s b h.inn R.length (Nat.le_refl _)
  obtain ⟨n, hn'⟩ : ∃ n, n = l.length := ⟨_, rfl⟩
  have HN : Hid (l.length = n) := hn'.symm
  rw [← hn'] at HBf HPs hD1 hD2 hD3 HLen HPin HFr HCp ⊢
  clear hn'
  obtain ⟨m, hm'⟩ : ∃ m, m = R.length := ⟨_, rfl⟩
  have HMr : Hid (R.length = m) := hm'.symm
  rw [← hm'] at HBf HPs hD2 hD3 HPin ⊢
  clear hm'
  obtain ⟨Z, hZ⟩ : ∃ Z, Z = runD l R c s b own := ⟨_, rfl⟩
  rw [← hZ] at hD0 hD1 hD2 hD3 ⊢
  clear hZ
  go_enter Try.func6, Try.ntmps6
  go_wp2_with fail
  refine (HFr.out _ (by (repeat (first | exact Below.refl _ _ | assumption | refine Below.drew ?_ | refine balloc ?_ _ | refine bset ?_ (by simp; omega) _ | refine bset ?_ (by simp) _ | refine bstep ?_ (by assumption))))).mono ?_
  rintro e w1 ⟨hE0, hE1⟩
  by_cases hf : freC l c s = 0
  rotate_left
  · obtain ⟨rfl, hb1⟩ := hE1 hf
    have HC : Hid (Z = ⟨freC l c s, 0, []⟩) := hD0.out hf
    have hB1 : Below w.heap.size w w1 := by (repeat (first | exact Below.refl _ _ | assumption | refine Below.drew ?_ | refine balloc ?_ _ | refine bset ?_ (by simp; omega) _ | refine bset ?_ (by simp) _ | refine bstep ?_ (by assumption)))
    have hz1 := hb1.size
    simp at hz1
    obtain ⟨c1, f1⟩ := bcell hb1
    have r0 : w1.cell? ⟨w.heap.size, 0, none⟩ = some (.int .i64 0) := cell_keep hb1 (by simp [go_sem])
    have r1 : w1.cell? ⟨w.heap.size, 1, none⟩ = some (.int .i64 0) := cell_keep hb1 (by simp [go_sem])
    have r2 : w1.cell? ⟨w.heap.size, 2, none⟩ = some (.slice none 0 0) := cell_keep hb1 (by simp [go_sem])
    have rf : ∀ o, w1.frozen? ⟨w.heap.size, o, none⟩ = false := fun o => by rw [f1 _ _ (by simp; try omega)]; simp [go_sem]
    clear hb1 c1 f1 hE0 hE1 HFr HBf HCp HPs hD0 hD1 hD2 hD3
    have zr : w.heap.size < w1.heap.size := World.block_lt_of_cell? w1 _ r0
    generalize freC l c s = g at *
    have hg' : (g != 0) = true := by simp [hf]
    go_wp2
    exact bodyPost_ret (v := .agg #[.int .i64 g, .int .i64 0, .slice none 0 0]) (by simp [results, Try.results6, go_sem, r0, r1, r2, rf, zr, Nat.ne_of_lt zr]) rfl (runE_err HC.out (by (repeat (first | refine bset ?_ (by simp; omega) _ | refine bset ?_ (by simp) _ | refine balloc ?_ _ | assumption))))
  obtain ⟨p2, q2, F2, rfl, o2, hb1⟩ := hE0 hf
  have HLk : Hid (ListOk l) := listOk_of (freC_ok hf).1
  have hB1 : Below w.heap.size w w1 := by (repeat (first | exact Below.refl _ _ | assumption | refine Below.drew ?_ | refine balloc ?_ _ | refine bset ?_ (by simp; omega) _ | refine bset ?_ (by simp) _ | refine bstep ?_ (by assumption)))
  have hz1 := hb1.size
  simp at hz1
  obtain ⟨c1, f1⟩ := bcell hb1
  have r0 : w1.cell? ⟨w.heap.size, 0, none⟩ = some (.int .i64 0) := cell_keep hb1 (by simp [go_sem])
  have r1 : w1.cell? ⟨w.heap.size, 1, none⟩ = some (.int .i64 0) := cell_keep hb1 (by simp [go_sem])
  have r2 : w1.cell? ⟨w.heap.size, 2, none⟩ = some (.slice none 0 0) := cell_keep hb1 (by simp [go_sem])
  have rf : ∀ o, w1.frozen? ⟨w.heap.size, o, none⟩ = false := fun o => by rw [f1 _ _ (by simp; try omega)]; simp [go_sem]
  clear hb1 c1 f1 hE0 hE1 HFr o2 hD0
  have zr : w.heap.size < w1.heap.size := World.block_lt_of_cell? w1 _ r0
  have hn1 : 1 ≤ n ∧ n ≤ 5 := by have h1 := HLk.out.lo; have h2 := HLk.out.hi; rw [HN.out] at h1 h2; exact ⟨h1, h2⟩
  go_wp2_with fail
  refine (HBf.out _ (by (repeat (first | exact Below.refl _ _ | assumption | refine Below.drew ?_ | refine balloc ?_ _ | refine bset ?_ (by simp; omega) _ | refine bset ?_ (by simp) _ | refine bstep ?_ (by assumption)))) HLk.out).mono ?_
  rintro e w2 ⟨rfl, hb2⟩
  have hB12 : Below w1.heap.size w1 w2 := by (repeat (first | exact Below.refl _ _ | assumption | refine Below.drew ?_ | refine balloc ?_ _ | refine bset ?_ (by simp; omega) _ | refine bset ?_ (by simp) _ | refine bstep ?_ (by assumption)))
  have hB2 : Below w.heap.size w w2 := bstep hB1 hB12
  have hz2 := hB12.size
  replace r0 := cell_keep hB12 r0
  replace r1 := cell_keep hB12 r1
  replace r2 := cell_keep hB12 r2
  replace rf : ∀ o, w2.frozen? ⟨w.heap.size, o, none⟩ = false := fun o => by rw [(bcell hB12).2 _ _ (by omega)]; exact rf o
  clear hb2 hB12 HBf
  by_cases hbf : balF R n b own = 0
  rotate_left
  · have HC : Hid (Z = ⟨balF R n b own, 0, []⟩) := hD1.out hf hbf
    clear HCp HPs hD1 hD2 hD3
    generalize balF R n b own = g at *
    have hg' : (g != 0) = true := by simp [hbf]
    go_wp2
    exact bodyPost_ret (v := .agg #[.int .i64 g, .int .i64 0, .slice none 0 0]) (by simp [results, Try.results6, go_sem, r0, r1, r2, rf]) rfl (runE_err HC.out (by (repeat (first | refine bset ?_ (by simp; omega) _ | refine bset ?_ (by simp) _ | refine balloc ?_ _ | assumption))))
  rw [hbf]
  have HBk : Hid (BalOk R n b own) := balOk_of hbf
  have hD2' : Hid (((prN l R c s b m).did.length : Int) < quoV n → Z = ⟨4, 0, (prN l R c s b m).accs⟩) := hD2.out hf hbf
  have hD3' : Hid (quoV n ≤ ((prN l R c s b m).did.length : Int) → Z = ⟨0, (best own (prN l R c s b m).old (prN l R c s b m).old.length).val, acN (prN l R c s b m).accs (prN l R c s b m).did c s b (best own (prN l R c s b m).old (prN l R c s b m).old.length).val (prN l R c s b m).did.length⟩) := hD3.out hf hbf
  clear hf hbf hD1 hD2 hD3
  go_wp2_with fail
  refine (HCp.out _ hB2 HLk.out).mono ?_
  rintro e w3 ⟨v3, F3, rfl, o3, hb3⟩
  obtain ⟨a3, c3, rfl⟩ := accs_form (accsR.ofO o3)
  have hB3 : Below w.heap.size w w3 := bstep hB2 hb3
  have hz3 := hb3.size
  have HO3 : Hid (accsR.O w3 w2.heap.size F3 (.slice a3 n c3) l) := by show accsR.O _ _ _ _ _; rw [← HN.out]; exact o3
  replace r0 := cell_keep hb3 r0
  replace r1 := cell_keep hb3 r1
  replace r2 := cell_keep hb3 r2
  replace rf : ∀ o, w3.frozen? ⟨w.heap.size, o, none⟩ = false := fun o => by rw [(bcell hb3).2 _ _ (by omega)]; exact rf o
  have HPs3 : Hid (Calls Try.prog 15 #[.slice a3 n c3, .slice ar m cr, .int .i64 c, .int .i64 s, .int .i64 b] w3 (PsE (.slice a3 n c3) (prN l R c s b m) w2.heap.size F3 w3)) := HPs.out w3 _ w2.heap.size F3 hB3 (by omega) (by omega) HLk.out HBk.out HO3.out
  have HF3 : Hid (∀ b', F3 b' → w2.heap.size ≤ b' ∧ b' < w3.heap.size) := fun b' h => accsR.rng HO3.out b' h
  have HPi : Hid (∀ a ∈ (prN l R c s b m).did, 0 ≤ a ∧ a < n) := HPin.out HBk.out
  have HOl : Hid (∀ v ∈ (prN l R c s b m).old, isNo v = true ∨ votB v = true) := HOld.out m
  have hdl := HDid.out m
  have hal := HLen.out m
  have hm5 : m ≤ n := by have := HBk.out.len; rw [HMr.out] at this; exact this
  have hvote := HBk.out.vote
  clear hb3 o3 HCp HPs HO3 HPin HOld HDid HLen
  obtain ⟨P, hP⟩ : ∃ P, P = prN l R c s b m := ⟨_, rfl⟩
  rw [← hP] at hD2' hD3' HPs3 HPi HOl hdl hal
  clear hP
  rw [HN.out]
  go_wp2_with fail
  refine HPs3.out.mono ?_
  rintro e w4 ⟨vd, vo, F4, rfl, o4, hF4, od, ov, hdF, hmod⟩
  have HO4 : Hid (accsR.O w4 w2.heap.size F4 (.slice a3 n c3) P.accs) := o4
  have HF4 : Hid (∀ b', F4 b' → w2.heap.size ≤ b') := fun b' h => (accsR.rng HO4.out b' h).1
  have hne : ¬ F3 w.heap.size := fun h => by have := HF3.out _ h; omega
  replace r0 := hmod.cell r0 hne
  replace r1 := hmod.cell r1 hne
  replace r2 := hmod.cell r2 hne
  replace rf : ∀ o, w4.frozen? ⟨w.heap.size, o, none⟩ = false := fun o => (World.frozen?_of_block (hmod.block w.heap.size (by omega) hne)).trans (rf o)
  have hz4 := hmod.size
  have hB4 : Below w.heap.size w w4 := hmod.below hB3 hB3.size (fun b' h => by have := HF3.out b' h; omega)
  obtain ⟨ad, cd, rfl, hdc, hdm, hdi⟩ := IntsV_of_owns od
  have HDi : Hid (∀ i, i < P.did.length → ∃ bb o, ad = some ⟨bb, o, none⟩ ∧ w4.cell? ⟨bb, o + i, none⟩ = some (.int .i64 (P.did.getD i 0)) ∧ ¬ F4 bb) := fun i hi => by
    obtain ⟨bb, o, e, hc⟩ := hdi i hi
    refine ⟨bb, o, e, hc, fun h => ?_⟩
    rcases od.2 with ⟨h1, h2⟩ | ⟨gg, cap, cur, h1, _⟩
    · omega
    · simp only [Value.slice.injEq] at h1
      rw [e] at h1
      simp only [Option.some.injEq, Addr.mk.injEq, and_true] at h1
      obtain ⟨⟨rfl, rfl⟩, _, rfl⟩ := h1
      exact hdF _ (by rw [e]; rfl) h
  have HVo : Hid (votsR.V w4 vo P.old) := VotsV_of_owns ov
  obtain ⟨ao, co, rfl⟩ := owns_form ov
  unfold maxLen at hdm
  have HPk : Hid (∀ W, Below w4.heap.size w4 W → Calls Try.prog 17 #[.slice ao P.old.length co, .int .i64 own] W fun e w' => e = .returned (.agg #[.int .i64 (pickC P.old own), .int .i64 (pickV P.old own)]) ∧ Below W.heap.size W w') := fun W hW => implPick_any _ P.old own W (votsR.below HVo.out hW)
  have hpk := pick_ok (xs := P.old) (own := own) (by omega) HOl.out (by have := hvote; unfold votB at this; simp only [Bool.and_eq_true] at this; exact this.2)
  rw [hpk.1, hpk.2] at HPk
  clear o4 hF4 od ov hdF hdi HPs3 hpk hmod HVo HOl
  have hqr : quoR (n : Int) = quoV n := by unfold quoR; rw [if_pos (inBi.2 (by omega))]
  have hcon := implQuorum_any (n : Int)
  rw [hqr] at hcon
  have HQ : Hid (∀ W, Calls Try.prog 16 #[.int .i64 n] W fun e w' => e = .returned (.agg #[.int .i64 (quoC n), .int .i64 (quoV n)]) ∧ Below W.heap.size W w') := hcon
  clear hcon hqr
  generalize quoC (n : Int) = qc at *
  generalize quoV (n : Int) = Q at *
  have hfl : ∀ u v w, (Instr.field 36 (.agg #[.int .i64 u, .int .i64 v]) 1).run Try.prog w = .ok (.int .i64 v) w := fun _ _ _ => by kernel_rfl
  obtain ⟨dn, hdn⟩ : ∃ dn, dn = P.did.length := ⟨_, rfl⟩
  have HDn : Hid (P.did.length = dn) := hdn.symm
  rw [hdl.2] at HPk hD3' ⊢
  rw [← hdn] at hdl hD2' hD3' HDi HPk hdc ⊢
  clear hdn
  go_wp2_with fail
  refine (HQ.out _).mono ?_
  rintro e w5 ⟨rfl, hb5⟩
  have hB5 : Below w.heap.size w w5 := bstep hB4 hb5
  have hz5 := hb5.size
  replace r0 := cell_keep hb5 r0
  replace r1 := cell_keep hb5 r1
  replace r2 := cell_keep hb5 r2
  replace rf : ∀ o, w5.frozen? ⟨w.heap.size, o, none⟩ = false := fun o => by rw [(bcell hb5).2 _ _ (by omega)]; exact rf o
  have HO5 : Hid (accsR.O w5 w2.heap.size F4 (.slice a3 n c3) P.accs) := accsR.keep HO4.out hb5
  have HDi5 : Hid (∀ i, i < dn → ∃ bb o, ad = some ⟨bb, o, none⟩ ∧ w5.cell? ⟨bb, o + i, none⟩ = some (.int .i64 (P.did.getD i 0)) ∧ ¬ F4 bb) := fun i hi => by
    obtain ⟨bb, o, e, hc, h⟩ := HDi.out i hi
    exact ⟨bb, o, e, cell_keep hb5 hc, h⟩
  have HPk5 : Hid (Calls Try.prog 17 #[.slice ao dn co, .int .i64 own] w5 fun e w' => e = .returned (.agg #[.int .i64 0, .int .i64 (best own P.old dn).val]) ∧ Below w5.heap.size w5 w') := HPk.out w5 hb5
  clear hb5 HO4 HDi HPk HQ
  by_cases hq : (dn : Int) < Q
  · have HC : Hid (Z = ⟨4, 0, P.accs⟩) := hD2'.out hq
    clear hD2' hD3' HPk5 HDi5
    go_wp2
    refine bodyPost_ret (v := .agg #[.int .i64 4, .int .i64 0, .slice a3 n c3]) (by simp [results, Try.results6, go_sem, r0, r1, r2, rf]) rfl (runE_ok HC.out (F := F4) ?_ (by (repeat (first | refine bset ?_ (by simp; omega) _ | refine bset ?_ (by simp) _ | refine balloc ?_ _ | assumption))))
    have h := accsR.base (base' := w.heap.size) HO5.out (by omega)
    have hk : ∀ (W : World) (u : Value) (j : Nat), accsR.O W w.heap.size F4 (.slice a3 n c3) P.accs → accsR.O (W.setCell ⟨w.heap.size, j, none⟩ u) w.heap.size F4 (.slice a3 n c3) P.accs := fun W u j h => Rep.setN _ h u (fun hb => by have := HF4.out _ hb; dsimp only at this; omega)
    exact hk _ _ _ (hk _ _ _ (hk _ _ _ h))
  have HC : Hid (Z = ⟨0, (best own P.old dn).val, acN P.accs P.did c s b (best own P.old dn).val dn⟩) := hD3'.out (by omega)
  clear hD2' hD3'
  go_wp2_with fail
  refine HPk5.out.mono ?_
  rintro e w6 ⟨rfl, hb6⟩
  have hB6 : Below w.heap.size w w6 := bstep hB5 hb6
  have hz6 := hb6.size
  replace r0 := cell_keep hb6 r0
  replace r1 := cell_keep hb6 r1
  replace r2 := cell_keep hb6 r2
  replace rf : ∀ o, w6.frozen? ⟨w.heap.size, o, none⟩ = false := fun o => by rw [(bcell hb6).2 _ _ (by omega)]; exact rf o
  have HO6 : Hid (accsR.O w6 w2.heap.size F4 (.slice a3 n c3) P.accs) := accsR.keep HO5.out hb6
  have HDi6 : Hid (∀ i, i < dn → ∃ bb o, ad = some ⟨bb, o, none⟩ ∧ w6.cell? ⟨bb, o + i, none⟩ = some (.int .i64 (P.did.getD i 0)) ∧ ¬ F4 bb) := fun i hi => by
    obtain ⟨bb, o, e, hc, h⟩ := HDi5.out i hi
    exact ⟨bb, o, e, cell_keep hb6 hc, h⟩
  clear hb6 HO5 HDi5 HPk5
  generalize (best own P.old dn).val = V at *
  have HAl : Hid (∀ k, (acN P.accs P.did c s b V k).length = n) := fun k => by rw [acN_len, hal]
  go_wp2
  go_loopw [69] (fun i w' => ∃ (k : Nat) (F' : Nat → Prop), k ≤ dn ∧ i = .int .i64 k ∧ Hid (accsR.O w' w2.heap.size F' (.slice a3 n c3) (acN P.accs P.did c s b V k)) ∧ Hid (∀ b', F' b' → F4 b' ∨ w6.heap.size ≤ b') ∧ Mod F4 w6 w') (fun i _ => dn - (intOf i).toNat)
  case atStart => exact ⟨0, F4, Nat.zero_le _, rfl, HO6, fun b' h => .inl h, Mod.refl _ _⟩
  case round =>
    obtain ⟨k, F', hk, rfl, HO, HF', hmod⟩ := hrel
    have hzr := hmod.size
    have hBr : Below w.heap.size w wr := hmod.below hB6 hB6.size (fun b' h => by have := HF4.out b' h; omega)
    have hne4 : ¬ F4 w.heap.size := fun h => by have := HF4.out _ h; omega
    by_cases hlt : k < dn
    · obtain ⟨bb, o, rfl, hc, hnb⟩ := HDi6.out k hlt
      replace hc := hmod.cell hc hnb
      have hin := HPi.out (P.did.getD k 0) (by simp [List.getD, HDn.out, hlt])
      obtain ⟨i, hi⟩ : ∃ i : Nat, P.did.getD k 0 = (i : Int) := ⟨(P.did.getD k 0).toNat, by omega⟩
      have HS : Hid (acN P.accs P.did c s b V (k + 1) = acS c s b V (acN P.accs P.did c s b V k) (i : Int)) := by show _ = _; rw [← hi]; rfl
      rw [hi] at hc hin
      clear hi
      have hlen := HAl.out k
      obtain ⟨st, hst⟩ : ∃ st, st = acN P.accs P.did c s b V k := ⟨_, rfl⟩
      rw [← hst] at HS hlen HO
      clear hst
      obtain ⟨g, cap, p, q, hsl, _, hcm, hFg, gf, hcell, hVa⟩ := accs_read HO.out (show i < st.length by omega)
      unfold maxLen at hcm
      rw [hlen] at hsl
      simp only [Value.slice.injEq, true_and] at hsl
      obtain ⟨rfl, rfl⟩ := hsl
      obtain ⟨r, hr⟩ : ∃ r, r = accAtD (st.getD i default).slots c s b V := ⟨_, rfl⟩
      have HP : Hid (∀ W, Below wr.heap.size wr W → Calls Try.prog 18 #[.agg #[.slice p (st.getD i default).slots.length q], .int .i64 c, .int .i64 s, .int .i64 b, .int .i64 V] W (AskE r W)) := fun W hW => by rw [hr]; exact implAccAt_u _ _ c s b V W (accR.below hVa hW)
      have HS2 : Hid (acN P.accs P.did c s b V (k + 1) = if r.code = 0 then st.set i r.acc else st) := by
        show _ = _
        rw [HS.out, hr]
        rfl
      clear hr hVa HS
      have hgz : g < wr.heap.size := (accsR.rng HO.out g hFg).2
      have hbz : bb < wr.heap.size := World.block_lt_of_cell? wr _ hc
      generalize (st.getD i default).slots.length = mm at *
      have i1 : (i : Int) < n := by omega
      have i2 : (0 : Int) ≤ i := by omega
      go_wp2_with fail
      refine (HP.out _ (by (repeat (first | exact Below.refl _ _ | assumption | refine Below.drew ?_ | refine balloc ?_ _ | refine bset ?_ (by simp; omega) _ | refine bset ?_ (by simp) _ | refine bstep ?_ (by assumption))))).mono ?_
      rintro e w7 ⟨v7, F7, rfl, o7, hb7⟩
      obtain ⟨av, cv, rfl, o8⟩ := accR_cells o7
      have hz7 := hb7.size
      have hcell7 := cell_keep hb7 hcell
      have hc7 := cell_keep hb7 hc
      have gf7 : ∀ o, w7.frozen? ⟨g, o, none⟩ = false := fun o => by rw [(bcell hb7).2 _ _ hgz]; exact gf o
      have HO7 : Hid (accsR.O w7 w2.heap.size F' (.slice (some ⟨g, 0, none⟩) n c3) st) := accsR.keep HO.out hb7
      have HA7 : Hid (accR.O w7 w2.heap.size F7 (.agg #[.slice av r.acc.slots.length cv]) r.acc) := accR.base o8 (by omega)
      have HFl : Hid (∀ bb, F' bb → bb < wr.heap.size) := fun bb h => (accsR.rng HO.out bb h).2
      have HF7 : Hid (∀ bb, F7 bb → wr.heap.size ≤ bb ∧ bb < w7.heap.size) := fun bb h => accR.rng o8 bb h
      have HGF : Hid (F4 g ∨ w6.heap.size ≤ g) := HF'.out g hFg
      have hmod7 : Mod F4 w6 w7 := hmod.trans (Mod.of_below hb7)
      clear o7 o8 hb7 HP HO hc hcell gf hmod
      by_cases hcode : r.code = 0
      · have HS3 : Hid (acN P.accs P.did c s b V (k + 1) = st.set i r.acc) := by show _ = _; rw [HS2.out, if_pos hcode]
        rw [hcode]
        clear hcode HS2
        have hgz7 : g < w7.heap.size := by omega
        have hbz7 : bb < w7.heap.size := by omega
        have hne : ¬ g = w7.heap.size := by omega
        have hstore := accs_store (i := i) (by rw [hlen]; exact HO7.out) (by omega) HA7.out (fun b' h1 h2 => by have := HFl.out b' h1; have := (HF7.out b' h2).1; omega)
        rw [hlen] at hstore
        obtain ⟨F9, o9, hm9, hF9⟩ := hstore
        have HO9 : Hid (accsR.O ((w7.setCell ⟨g, i, none⟩ (.slice av r.acc.slots.length cv)).alloc (.cells #[.int .i64 0, .int .i64 r.ob, .int .i64 r.ov, .slice av r.acc.slots.length cv] 57)) w2.heap.size F9 (.slice (some ⟨g, 0, none⟩) n c3) (acN P.accs P.did c s b V (k + 1))) := by
          show accsR.O _ _ _ _ _
          rw [HS3.out]
          exact accsR.alloc o9 _
        have HF9 : Hid (∀ b', F9 b' → F4 b' ∨ w6.heap.size ≤ b') := fun b' h => by
          rcases hF9 b' h with h | h
          · exact HF'.out b' h
          · have := (HF7.out b' h).1; exact .inr (by omega)
        have hmod9 : Mod F4 w6 ((w7.setCell ⟨g, i, none⟩ (.slice av r.acc.slots.length cv)).alloc (.cells #[.int .i64 0, .int .i64 r.ob, .int .i64 r.ov, .slice av r.acc.slots.length cv] 57)) := by
          refine Mod.alloc ⟨hm9.os.trans hmod7.os, hm9.tape.trans hmod7.tape, hm9.output.trans hmod7.output, Nat.le_trans hmod7.size hm9.size, fun j hj hn => (hm9.block j (Nat.lt_of_lt_of_le hj hmod7.size) (fun e => ?_)).trans (hmod7.block j hj hn)⟩ _
          rcases HGF.out with h | h
          · exact hn (e ▸ h)
          · omega
        clear o9 hm9 hF9 hmod7 HO7 HA7
        go_wp2
        exact ⟨⟨k + 1, F9, by omega, by go_num, HO9, HF9, hmod9⟩, by simp [intOf]; omega⟩
      · have HS3 : Hid (acN P.accs P.did c s b V (k + 1) = st) := by show _ = _; rw [HS2.out, if_neg hcode]
        have hcode' : (r.code == 0) = false := by simp [hcode]
        clear HS2
        have HO9 : Hid (accsR.O (w7.alloc (.cells #[.int .i64 r.code, .int .i64 r.ob, .int .i64 r.ov, .slice av r.acc.slots.length cv] 57)) w2.heap.size F' (.slice (some ⟨g, 0, none⟩) n c3) (acN P.accs P.did c s b V (k + 1))) := by
          show accsR.O _ _ _ _ _
          rw [HS3.out]
          exact accsR.alloc HO7.out _
        have hmod9 : Mod F4 w6 (w7.alloc (.cells #[.int .i64 r.code, .int .i64 r.ob, .int .i64 r.ov, .slice av r.acc.slots.length cv] 57)) := hmod7.alloc _
        clear hmod7 HO7 HA7
        go_wp2
        exact ⟨⟨k + 1, F', by omega, by go_num, HO9, HF', hmod9⟩, by simp [intOf]; omega⟩
    · have hkm : k = dn := by omega
      subst hkm
      replace r0 := hmod.cell r0 hne4
      replace r1 := hmod.cell r1 hne4
      replace r2 := hmod.cell r2 hne4
      replace rf : ∀ o, wr.frozen? ⟨w.heap.size, o, none⟩ = false := fun o => (World.frozen?_of_block (hmod.block w.heap.size (by omega) hne4)).trans (rf o)
      have HFr2 : Hid (∀ b', F' b' → w2.heap.size ≤ b') := fun b' h => (accsR.rng HO.out b' h).1
      go_wp2
      refine bodyPost_ret (v := .agg #[.int .i64 0, .int .i64 V, .slice a3 n c3]) (by simp [results, Try.results6, go_sem, r0, r1, r2, rf]) rfl (runE_ok HC.out (F := F') ?_ (by (repeat (first | refine bset ?_ (by simp; omega) _ | refine bset ?_ (by simp) _ | refine balloc ?_ _ | assumption))))
      have h := accsR.base (base' := w.heap.size) HO.out (by omega)
      have hk : ∀ (W : World) (u : Value) (j : Nat), accsR.O W w.heap.size F' (.slice a3 n c3) (acN P.accs P.did c s b V k) → accsR.O (W.setCell ⟨w.heap.size, j, none⟩ u) w.heap.size F' (.slice a3 n c3) (acN P.accs P.did c s b V k) := fun W u j h => Rep.setN _ h u (fun hb => by have := HFr2.out _ hb; dsimp only at this; omega)
      exact hk _ _ _ (hk _ _ _ (hk _ _ _ h))
end Go.Proofs.Yteppnppknfldbaa

