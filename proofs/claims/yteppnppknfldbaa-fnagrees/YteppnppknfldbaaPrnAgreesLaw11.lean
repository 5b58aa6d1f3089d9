import Derived.Deep.AppendLies
import Derived.Test.YteppnppknfldbaaPrnAgreesLaw5
import Derived.Test.YteppnppknfldbaaPrnAgreesLaw8
import Derived.Test.YteppnppknfldbaaPrnAgreesLaw10
import Derived.Test.YteppnppknfldbaaPrnAgreesLaw4
import Derived.Shelf.Abstract
import Derived.BigQuiet
import Derived.Deep.QuietTactic
import Derived.Deep.RegionHeld3

/-
  AcceptSlot, the specification's.
-/
set_option linter.unusedSimpArgs false
set_option linter.unusedVariables false
namespace Go.Proofs.Yteppnppknfldbaa
open Go.RowKit
set_option linter.unusedSectionVars false
variable [DecidableEq Vot] [Inhabited Vot] [DecidableEq Slt] [Inhabited Slt] [DecidableEq SltR] [Inhabited SltR] [DecidableEq Bal] [Inhabited Bal] [DecidableEq Ledg] [Inhabited Ledg] [DecidableEq Leg] [Inhabited Leg]
attribute [local go_sem ↓] Go.wp_at_zero Go.wp_at_succ

theorem heap_new2 (w : World) (o o' : Obj) : ((w.alloc o).alloc o').heap[w.heap.size]? = some o := by
  show ((w.heap.push o).push o')[w.heap.size]? = some o
  simp [Array.getElem?_push]
theorem own_other {w : World} {base e size : Nat} {v : Value} {n : Nat} {xs : List Value} {k : Nat} {c : Array Value} {t : Nat} {f : Nat × Nat} (h : w.ownsRow base e size v n xs) (hb : w.heap[k]? = some (.cells c t f)) (hne : ¬ t = e) : ¬ v.ownBlock = some k := by
  intro he
  rcases h.2 with ⟨rfl, _⟩ | ⟨g, cap, cur, rfl, _, hg, _⟩
  · simp [Value.ownBlock] at he
  · simp only [Value.ownBlock, Option.some.injEq] at he
    subst he
    rw [hb] at hg
    simp at hg
    exact hne hg.2.1
theorem Rep.setN {α : Type} (R : Rep α) {w : World} {base : Nat} {F : Nat → Prop} {v : Value} {x : α} (h : R.O w base F v x) {p : Addr} (u : Value) (hp : ¬ F p.block) : R.O (w.setCell p u) base F v x :=
  R.mod h (Mod.of_set w p u) (fun b hb he => hp (he ▸ hb))
end Go.Proofs.Yteppnppknfldbaa

/-
  An acceptor copied, the program's.
-/
set_option linter.unusedSimpArgs false
set_option linter.unusedVariables false
namespace Go.Proofs.Yteppnppknfldbaa
open Go.RowKit
set_option linter.unusedSectionVars false
variable [DecidableEq Vot] [Inhabited Vot] [DecidableEq Slt] [Inhabited Slt] [DecidableEq Bal] [Inhabited Bal] [DecidableEq Ledg] [Inhabited Ledg] [DecidableEq Leg] [Inhabited Leg] [DecidableEq Acc] [Inhabited Acc] [DecidableEq SltR] [Inhabited SltR] [DecidableEq AccR] [Inhabited AccR] [DecidableEq AccsR] [Inhabited AccsR] [DecidableEq SltsR] [Inhabited SltsR]
attribute [local go_sem ↓] Go.wp_at_zero Go.wp_at_succ

theorem slts_nil (w : World) (base : Nat) : sltsR.O w base (fun _ => False) (.slice none 0 0) [] :=
  ⟨[], fun _ => default, fun _ _ => False, ⟨World.ownsRow_nil _ _ _ _, fun i hi => absurd hi (Nat.not_lt_zero _), fun i hi => absurd hi (Nat.not_lt_zero _), fun i hi => absurd hi (Nat.not_lt_zero _), fun i hi => absurd hi (Nat.not_lt_zero _), fun i j hi => absurd hi (Nat.not_lt_zero _)⟩, fun b => ⟨fun h => h.elim, fun h => h.elim (fun h => noOwn h) (fun ⟨i, hi, _⟩ => absurd hi (Nat.not_lt_zero _))⟩⟩
set_option maxRecDepth 20000 in
set_option maxHeartbeats 4000000 in
theorem copEachS_u (x : Value) (xs : List Slt) (w : World) (hx : sltsR.V w x xs) (hn : xs.length ≤ 1048576) (hw : ∀ k, k < xs.length → (xs.getD k default).cast.length ≤ 1048576) :
    Calls Try.prog 30 #[x, .func (.func 19) #[] #[]] w fun e w' => ∃ v F, e = .returned v ∧ sltsR.O w' w.heap.size F v xs ∧ Below w.heap.size w w' := by
  obtain ⟨au, cu, rfl, hcx, hmx, hx⟩ := hx
  unfold maxLen at hmx
  have hXs : Hid (∀ k, k < xs.length → ∃ b o p q, au = some ⟨b, o, none⟩ ∧ (w.cell? ⟨b, o + k * 6, none⟩ = some (.int .i64 (xs.getD k default).con) ∧ w.cell? ⟨b, o + k * 6 + 1, none⟩ = some (.int .i64 (xs.getD k default).sh) ∧ w.cell? ⟨b, o + k * 6 + 2, none⟩ = some (.int .i64 (xs.getD k default).pr) ∧ w.cell? ⟨b, o + k * 6 + 3, none⟩ = some (.int .i64 (xs.getD k default).lb) ∧ w.cell? ⟨b, o + k * 6 + 4, none⟩ = some (.int .i64 (xs.getD k default).lv) ∧ w.cell? ⟨b, o + k * 6 + 5, none⟩ = some (.slice p (xs.getD k default).cast.length q)) ∧ sltR.V w (.agg #[.int .i64 (xs.getD k default).con, .int .i64 (xs.getD k default).sh, .int .i64 (xs.getD k default).pr, .int .i64 (xs.getD k default).lb, .int .i64 (xs.getD k default).lv, .slice p (xs.getD k default).cast.length q]) (xs.getD k default)) := fun k hk => slts_at hx hk
  have HW : Hid (∀ k, k < xs.length → (xs.getD k default).cast.length ≤ 1048576) := hw
  clear hx hw
  obtain ⟨n, hn'⟩ : ∃ n, n = xs.length := ⟨_, rfl⟩
  have HN : Hid (xs.length = n) := hn'.symm
  rw [← hn'] at hcx hXs HW hn ⊢
  clear hn'
  have eg := enters_of Try.func19 (by kernel_rfl) rfl
  go_enter Try.func30, Try.ntmps30
  go_wp2
  go_loopw [5, 10] (fun s i w' => ∃ (k : Nat) (a : Option Addr) (c : Nat) (F : Nat → Prop), k ≤ n ∧ i = .int .i64 k ∧ s = .slice a k c ∧ Hid (sltsR.O w' w.heap.size F (.slice a k c) (xs.take k)) ∧ Below w.heap.size w w') (fun s i _ => n - (intOf i).toNat)
  case atStart => exact ⟨0, none, 0, _, Nat.zero_le _, rfl, rfl, slts_nil _ _, by (repeat (first | exact Below.refl _ _ | assumption | refine Below.drew ?_ | refine balloc ?_ _ | refine bset ?_ (by simp; omega) _ | refine bset ?_ (by simp) _ | refine bstep ?_ (by assumption)))⟩
  case round =>
    obtain ⟨k, as_, cs_, F, hk, rfl, rfl, HO, hbl⟩ := hrel
    have zr := hbl.size
    by_cases hlt : k < n
    · obtain ⟨b, o, pp, qq, rfl, hc, hV⟩ := hXs.out k hlt
      have hcw := HW.out k hlt
      obtain ⟨l, hl⟩ : ∃ l, l = xs.getD k default := ⟨_, rfl⟩
      rw [← hl] at hc hV hcw
      have HL : Hid (xs.take (k + 1) = xs.take k ++ [l]) := by
        show _ = _
        rw [List.take_succ_eq_append_getElem (by rw [HN.out]; exact hlt), hl]
        simp [List.getD, show k < xs.length by rw [HN.out]; exact hlt]
      clear hl
      obtain ⟨g0, g1, g2, g3, g4, g5⟩ := (sltKeep2 hbl hc hc).2.1
      clear hc
      have zb : b < wr.heap.size := World.block_lt_of_cell? wr _ g0
      have HCp : Hid (∀ W, Below w.heap.size w W → Calls Try.prog 19 #[.agg #[.int .i64 l.con, .int .i64 l.sh, .int .i64 l.pr, .int .i64 l.lb, .int .i64 l.lv, .slice pp l.cast.length qq]] W fun e w' => ∃ v F, e = .returned v ∧ sltR.O w' W.heap.size F v l ∧ Below W.heap.size W w') := fun W hW => copied8_u _ l W (sltR.below hV hW) hcw
      clear hV
      go_wp2_with fail
      refine (HCp.out _ (by (repeat (first | exact Below.refl _ _ | assumption | refine Below.drew ?_ | refine balloc ?_ _ | refine bset ?_ (by simp; omega) _ | refine bset ?_ (by simp) _ | refine bstep ?_ (by assumption))))).mono ?_
      rintro e w2 ⟨v2, F2, rfl, o2, hb2⟩
      obtain ⟨a2, c2, rfl, _⟩ := slt_cells o2
      have hz2 := hb2.size
      simp at hz2
      have hB2 : Below wr.heap.size wr w2 := by (repeat (first | exact Below.refl _ _ | assumption | refine Below.drew ?_ | refine balloc ?_ _ | refine bset ?_ (by simp; omega) _ | refine bset ?_ (by simp) _ | refine bstep ?_ (by assumption)))
      have HO2 : Hid (sltsR.O w2 w.heap.size F (.slice as_ k cs_) (xs.take k)) := sltsR.keep HO.out hB2
      have HFl : Hid (∀ b, F b → b < wr.heap.size) := fun b hb => (sltsR.rng HO.out b hb).2
      have HF2 : Hid (∀ b, F2 b → wr.heap.size + 1 ≤ b) := fun b hb => by have := (sltR.rng o2 b hb).1; simpa using this
      have HU : Hid (sltR.O w2 w.heap.size F2 (.agg #[.int .i64 l.con, .int .i64 l.sh, .int .i64 l.pr, .int .i64 l.lb, .int .i64 l.lv, .slice a2 l.cast.length c2]) l) := sltR.base o2 (by simp; omega)
      have hB3 : Below w.heap.size w w2 := bstep hbl hB2
      clear hb2 o2 HCp HO g0 g1 g2 g3 g4 g5 hB2
      go_wp2_with (at_builtin; refine wpl_appS _ rfl _ _ rfl w.heap.size F F2 _ (xs.take k) l w2.heap.size a2 c2 rfl rfl ?a1 ?a2 ?a3 ?a4 ?a5 ?a6 ?_)
      case a1 => exact sltsR.alloc HO2.out _
      case a2 => exact sltR.alloc HU.out _
      case a3 => exact fun b h1 h2 => by have := HFl.out b h1; have := HF2.out b h2; omega
      case a4 => simp [go_sem]
      case a5 => rw [List.length_take, HN.out]; omega
      case a6 => simp; omega
      intro v3 w3 F3 o3 hb3 _
      rw [← HL.out] at o3
      obtain ⟨a3, c3, e3⟩ := slts_form (sltsR.ofO o3)
      rw [show (xs.take (k + 1)).length = k + 1 by rw [List.length_take, HN.out]; omega] at e3
      subst e3
      have HO3 : Hid (sltsR.O w3 w.heap.size F3 (.slice a3 (k + 1) c3) (xs.take (k + 1))) := o3
      have hB5 : Below w.heap.size w w3 := Below.trans (balloc hB3 _) hb3
      clear o3 hb3
      go_wp2
      exact ⟨⟨k + 1, a3, c3, F3, by omega, by go_num, rfl, HO3, hB5⟩, by simp [intOf]; omega⟩
    · have hkn : k = n := by omega
      subst hkn
      have ho := HO.out
      rw [List.take_of_length_le (by rw [HN.out]; exact Nat.le_refl _)] at ho
      go_wp2
      go_ret
      exact ⟨_, F, rfl, ho, hbl⟩
set_option maxRecDepth 20000 in
set_option maxHeartbeats 4000000 in
theorem copiedAcc_u (x : Value) (d : Acc) (w : World) (hx : accR.V w x d) (hn : d.slots.length ≤ 1048576) (hw : ∀ k, k < d.slots.length → (d.slots.getD k default).cast.length ≤ 1048576) :
    Calls Try.prog 14 #[x] w fun e w' => ∃ v F, e = .returned v ∧ accR.O w' w.heap.size F v d ∧ Below w.heap.size w w' := by
  obtain ⟨u1, rfl, hx⟩ := hx
  have HC : Hid (∀ W, Below w.heap.size w W → Calls Try.prog 30 #[u1, .func (.func 19) #[] #[]] W fun e w' => ∃ v F, e = .returned v ∧ sltsR.O w' W.heap.size F v d.slots ∧ Below W.heap.size W w') := fun W hW => copEachS_u _ d.slots W (sltsR.below hx hW) hn hw
  obtain ⟨au, cu, rfl⟩ := slts_form hx
  clear hx hn hw
  go_enter Try.func14, Try.ntmps14
  go_wp2_with fail
  refine (HC.out _ (by (repeat (first | exact Below.refl _ _ | assumption | refine Below.drew ?_ | refine balloc ?_ _ | refine bset ?_ (by simp; omega) _ | refine bset ?_ (by simp) _ | refine bstep ?_ (by assumption))))).mono ?_
  rintro e w1 ⟨v1, F, rfl, o1, hb1⟩
  have r0 : w1.cell? ⟨w.heap.size + 1, 0, none⟩ = some (.slice none 0 0) := cell_keep hb1 (by simp [go_sem])
  have rf : ∀ o, w1.frozen? ⟨w.heap.size + 1, o, none⟩ = false := fun o => by rw [(bcell hb1).2 _ _ (by simp)]; simp [go_sem]
  have hB1 : Below w.heap.size w w1 := by (repeat (first | exact Below.refl _ _ | assumption | refine Below.drew ?_ | refine balloc ?_ _ | refine bset ?_ (by simp; omega) _ | refine bset ?_ (by simp) _ | refine bstep ?_ (by assumption)))
  obtain ⟨a1, c1, e1⟩ := slts_form (sltsR.ofO o1)
  subst e1
  have HR : Hid (∀ b, F b → w.heap.size + 2 ≤ b) := fun b hb => by have := (sltsR.rng o1 b hb).1; simpa using this
  have HO : Hid (sltsR.O w1 w.heap.size F (.slice a1 d.slots.length c1) d.slots) := sltsR.base o1 (by simp; omega)
  clear o1 hb1 HC
  go_wp2
  refine bodyPost_ret (v := .agg #[.slice a1 d.slots.length c1]) ?_ rfl ⟨_, F, rfl, ⟨_, F, rfl, ?_, fun b => Iff.rfl⟩, by (repeat (first | refine bset ?_ (by simp; omega) _ | refine bset ?_ (by simp) _ | refine balloc ?_ _ | assumption))⟩
  · simp [results, Try.results14, go_sem, r0, rf]
  · exact Rep.setN _ HO.out _ (fun hb => by have := HR.out _ hb; simp at this)
end Go.Proofs.Yteppnppknfldbaa

/-
  The slots of a list of acceptors.
-/
set_option linter.unusedSimpArgs false
set_option linter.unusedVariables false
namespace Go.Proofs.Yteppnppknfldbaa
open Go.RowKit
set_option linter.unusedSectionVars false
variable [DecidableEq Vot] [Inhabited Vot] [DecidableEq Slt] [Inhabited Slt] [DecidableEq SltR] [Inhabited SltR] [DecidableEq Bal] [Inhabited Bal] [DecidableEq Ledg] [Inhabited Ledg] [DecidableEq Leg] [Inhabited Leg] [DecidableEq Acc] [Inhabited Acc] [DecidableEq AccR] [Inhabited AccR] [DecidableEq AccsR] [Inhabited AccsR] [DecidableEq SltsR] [Inhabited SltsR]
attribute [local go_sem ↓] Go.wp_at_zero Go.wp_at_succ

theorem slotsL_len (l : List Acc) (c s : Int) : (slotsL l c s).length = l.length := by simp [slotsL]
theorem slotsL_take (l : List Acc) (c s : Int) {k : Nat} (hk : k < l.length) : (slotsL l c s).take (k + 1) = (slotsL l c s).take k ++ [slotO (l.getD k default).slots (freS c s)] := by
  rw [List.take_succ_eq_append_getElem (by rw [slotsL_len]; exact hk)]
  simp [slotsL, List.getD, hk]
theorem accs_cast {l : List Acc} (h : ListOk l) {k : Nat} (hk : k < l.length) : AccOk (l.getD k default).slots := accOk_of (h.ok k hk)
def SfE (l : List Acc) (c s : Int) (w : World) (e : Ending) (w' : World) : Prop := ∃ v F, e = .returned v ∧ sltsRR.O w' w.heap.size F v (slotsD l c s) ∧ Below w.heap.size w w'
theorem sfE_err {l : List Acc} {c s k : Int} {w w' : World} (h : slotsD l c s = ⟨k, []⟩) (hb : Below w.heap.size w w') : SfE l c s w (.returned (.agg #[.int .i64 k, .slice none 0 0])) w' :=
  ⟨_, _, rfl, by rw [h]; exact ⟨_, _, rfl, slts_nil w' w.heap.size, fun _ => Iff.rfl⟩, hb⟩
theorem slotsD_code {l : List Acc} {c s : Int} (h : ¬ freC l c s = 0) : slotsD l c s = ⟨freC l c s, []⟩ := by
  unfold slotsD freC at *
  by_cases h1 : listF l = 0
  · rw [if_pos h1] at h ⊢
    rw [if_pos h1]
    cases h2 : idOk c s with
    | true => rw [h2] at h; simp at h
    | false => rfl
  · rw [if_neg h1, if_neg h1]
theorem slotsD_ok {l : List Acc} {c s : Int} (h : freC l c s = 0) : slotsD l c s = ⟨0, slotsL l c s⟩ := by
  obtain ⟨h1, h2⟩ := freC_ok h
  unfold slotsD
  rw [if_pos h1, if_pos h2]
end Go.Proofs.Yteppnppknfldbaa

/-
  PickValue in plain mathematics.
-/
namespace Go.Proofs.Yteppnppknfldbaa
open Go.RowKit
set_option linter.unusedSectionVars false
variable [DecidableEq Vot] [Inhabited Vot] [DecidableEq Slt] [Inhabited Slt] [DecidableEq Bal] [Inhabited Bal] [DecidableEq Ledg] [Inhabited Ledg] [DecidableEq Leg] [Inhabited Leg]

def isNo (x : Vot) : Bool := decide (x.bal = -1) && decide (x.val = 0)
def pickAt (xs : List Vot) (k : Nat) : Int := if isNo (xs.getD k default) || votB (xs.getD k default) then 0 else 3
def best (own : Int) (xs : List Vot) : Nat → Vot
  | 0 => ⟨-1, own⟩
  | k + 1 => if (best own xs k).bal < (xs.getD k default).bal then xs.getD k default else best own xs k
def pickC (xs : List Vot) (own : Int) : Int := if 9 < xs.length then 2 else if scanI (pickAt xs) xs.length = 0 then (if inB own 1 2 then 0 else 3) else scanI (pickAt xs) xs.length
def pickV (xs : List Vot) (own : Int) : Int := if pickC xs own = 0 then (best own xs xs.length).val else 0
theorem best_ge (own : Int) (xs : List Vot) : ∀ k, -1 ≤ (best own xs k).bal
  | 0 => by simp [best]
  | k + 1 => by
    have := best_ge own xs k
    unfold best
    split <;> omega
theorem best_no (own : Int) (xs : List Vot) : ∀ k, (best own xs k).bal < 0 → best own xs k = ⟨-1, own⟩
  | 0, _ => rfl
  | k + 1, h => by
    unfold best at h ⊢
    split at h
    · have := best_ge own xs k
      omega
    · rename_i h1
      rw [if_neg h1]
      exact best_no own xs k h
theorem pickC_many {xs : List Vot} {own : Int} (h : 9 < xs.length) : pickC xs own = 2 := by unfold pickC; rw [if_pos h]
theorem pickC_hit {xs : List Vot} {own : Int} {k : Nat} (h9 : xs.length ≤ 9) (hk : k < xs.length) (hs : scanI (pickAt xs) k = 0) (h1 : isNo (xs.getD k default) = false) (h2 : votB (xs.getD k default) = false) : pickC xs own = 3 := by
  have hc : pickAt xs k = 3 := by unfold pickAt; rw [h1, h2]; rfl
  have e := scanI_hit hs (by rw [hc]; omega) _ hk
  unfold pickC
  rw [if_neg (by omega), e, hc, if_neg (by omega)]
theorem pickAt_ok {xs : List Vot} {k : Nat} (h : isNo (xs.getD k default) = true ∨ votB (xs.getD k default) = true) : pickAt xs k = 0 := by
  unfold pickAt
  rcases h with h | h <;> rw [h] <;> simp
theorem pickC_own {xs : List Vot} {own : Int} (h9 : xs.length ≤ 9) (hs : scanI (pickAt xs) xs.length = 0) : pickC xs own = if inB own 1 2 then 0 else 3 := by
  unfold pickC
  rw [if_neg (by omega), if_pos hs]
theorem pickV_of {xs : List Vot} {own c : Int} (h : pickC xs own = c) (hc : c ≠ 0) : pickV xs own = 0 := by unfold pickV; rw [h, if_neg hc]
end Go.Proofs.Yteppnppknfldbaa

