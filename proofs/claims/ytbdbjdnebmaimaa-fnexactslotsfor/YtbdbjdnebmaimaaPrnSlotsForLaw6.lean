import Derived.Test.YtbdbjdnebmaimaaPrnSlotsForLaw5
import Derived.Test.YtbdbjdnebmaimaaPrnSlotsForLaw1
import Derived.Test.YtbdbjdnebmaimaaPrnSlotsForLaw4
import Derived.BigQuiet
import Derived.Deep.QuietTactic
import Derived.Deep.RegionHeld3

/-
  AcceptorsResult. (Written by program: nest.py.)
-/
namespace Go.Proofs.Ytbdbjdnebmaimaa
open Go.RowKit
set_option linter.unusedSectionVars false
variable [DecidableEq Vot] [Inhabited Vot] [DecidableEq Slt] [Inhabited Slt] [DecidableEq Acc] [Inhabited Acc]
attribute [local go_sem ↓] Go.wp_at_zero Go.wp_at_succ

structure AccsR where
  code : Int
  value : Int
  accs : List Acc
variable [DecidableEq AccsR] [Inhabited AccsR]

end Go.Proofs.Ytbdbjdnebmaimaa

/-
  SlotsResult. (Written by program: nest.py.)
-/
namespace Go.Proofs.Ytbdbjdnebmaimaa
open Go.RowKit
set_option linter.unusedSectionVars false
variable [DecidableEq Vot] [Inhabited Vot] [DecidableEq Slt] [Inhabited Slt]
attribute [local go_sem ↓] Go.wp_at_zero Go.wp_at_succ

structure SltsR where
  code : Int
  slots : List Slt
variable [DecidableEq SltsR] [Inhabited SltsR]

def sltsRR : Rep SltsR where
  V := fun w v x => ∃ u1, v = .agg #[.int .i64 x.code, u1] ∧ sltsR.V w u1 x.slots
  O := fun w base F v x => ∃ u1 F1, v = .agg #[.int .i64 x.code, u1] ∧ sltsR.O w base F1 u1 x.slots ∧ (∀ b, F b ↔ (F1 b))
  below := fun h hb => by
    obtain ⟨u1, rfl, h1⟩ := h
    exact ⟨u1, rfl, sltsR.below h1 hb⟩
  ofO := fun h => by
    obtain ⟨u1, F1, rfl, h1, _⟩ := h
    exact ⟨u1, rfl, sltsR.ofO h1⟩
  mod := fun h hm hd => by
    obtain ⟨u1, F1, rfl, h1, hF⟩ := h
    exact ⟨u1, F1, rfl, sltsR.mod h1 hm (fun b hb => hd b ((hF b).2 hb)), hF⟩
  rng := fun h b hb => by
    obtain ⟨u1, F1, rfl, h1, hF⟩ := h
    rcases (hF b).1 hb with hb
    · exact sltsR.rng h1 b hb
  base := fun h hb => by
    obtain ⟨u1, F1, rfl, h1, hF⟩ := h
    exact ⟨u1, F1, rfl, sltsR.base h1 hb, hF⟩
def wtSltsR (x : SltsR) : Nat := wtSlts x.slots
def cntSltsR (x : SltsR) : Nat := cntSlts x.slots
def mkSltsR (k : Int) (x : SltsR) : SltsR := { x with slots := mkSlts k x.slots }
theorem sltsR_form {w : World} {v : Value} {x : SltsR} (h : sltsRR.V w v x) : ∃ a1 c1, v = .agg #[.int .i64 x.code, .slice a1 x.slots.length c1] := by
  obtain ⟨u1, rfl, h1⟩ := h
  obtain ⟨a1, c1, rfl⟩ := slts_form h1
  exact ⟨_, _, rfl⟩
theorem sltsR_cnt (d : SltsR) : cntSltsR d ≤ 7 * wtSltsR d := by
  unfold cntSltsR wtSltsR
  have q1 := slts_cnt d.slots
  omega
set_option maxHeartbeats 1000000 in
theorem eqSlotsResult_u (x y : Value) (d d' : SltsR) (w : World) (hx : sltsRR.V w x d) (hy : sltsRR.V w y d') :
    Calls Try.prog 57 #[x, y] w fun e w' => e = .returned (.bool (decide (d = d'))) ∧ Below w.heap.size w w' := by
  obtain ⟨u1, rfl, h1⟩ := hx
  obtain ⟨v1, rfl, k1⟩ := hy
  obtain ⟨code, slots⟩ := d
  obtain ⟨code', slots'⟩ := d'
  dsimp only at h1 k1
  go_enter Try.func57, Try.ntmps57
  go_wp2_with fail
  all_goals try (go_ret; exact ⟨by simp_all, by (repeat (first | exact Below.refl _ _ | assumption | refine Below.drew ?_ | refine balloc ?_ _ | refine bset ?_ (by simp; omega) _ | refine bset ?_ (by simp) _ | refine bstep ?_ (by assumption)))⟩)
  refine (eqSlotS_u _ _ slots slots' _ (sltsR.below h1 (by (repeat (first | exact Below.refl _ _ | assumption | refine Below.drew ?_ | refine balloc ?_ _ | refine bset ?_ (by simp; omega) _ | refine bset ?_ (by simp) _ | refine bstep ?_ (by assumption))))) (sltsR.below k1 (by (repeat (first | exact Below.refl _ _ | assumption | refine Below.drew ?_ | refine balloc ?_ _ | refine bset ?_ (by simp; omega) _ | refine bset ?_ (by simp) _ | refine bstep ?_ (by assumption)))))).mono ?_
  rintro e w1 ⟨rfl, b1⟩
  go_wp2
  all_goals
    go_ret
    exact ⟨by simp_all, by (repeat (first | exact Below.refl _ _ | assumption | refine Below.drew ?_ | refine balloc ?_ _ | refine bset ?_ (by simp; omega) _ | refine bset ?_ (by simp) _ | refine bstep ?_ (by assumption)))⟩
set_option maxHeartbeats 1000000 in
theorem markSlotsResult_u (v : Value) (d : SltsR) (base : Nat) (F : Nat → Prop) (k : Int) (w : World) (ho : sltsRR.O w base F v d) (hw : wtSltsR d ≤ 1048576) (hn : k + cntSltsR d ≤ 1073741824) (hk0 : 0 ≤ k) :
    Calls Try.prog 60 #[v, .int .i64 k] w fun r w' => r = .returned (.int .i64 (k + cntSltsR d)) ∧ sltsRR.O w' base F v (mkSltsR k d) ∧ Mod F w w' := by
  obtain ⟨u1, F1, rfl, h1, hF⟩ := ho
  unfold wtSltsR at hw
  unfold cntSltsR at hn ⊢
  have HF : Hid (∀ b, F b ↔ (F1 b)) := hF
  clear hF
  go_enter Try.func60, Try.ntmps60
  go_wp2_with fail
  refine (markSlotS_u _ d.slots base F1 k _ (sltsR.alloc h1 _) (by omega) (by omega) (by omega)).mono ?_
  rintro e w1 ⟨rfl, r1, m1⟩
  go_wp2
  go_ret
  refine ⟨?_, ⟨_, F1, rfl, r1, HF.out⟩, ((Mod.refl F w).alloc _).trans (m1.mono (fun b hb => (HF.out b).2 hb))⟩
  simp
  try omega
set_option maxHeartbeats 1000000 in
theorem heldSlotsResult_u (v : Value) (d : SltsR) (k : Int) (w : World) (hv : sltsRR.V w v (mkSltsR k d)) (hw : wtSltsR d ≤ 1048576) (hn : k + cntSltsR d ≤ 1073741824) (hk0 : 0 ≤ k) :
    Calls Try.prog 61 #[v, .int .i64 k] w fun r w' => r = .returned (.int .i64 (k + cntSltsR d)) ∧ Below w.heap.size w w' := by
  obtain ⟨u1, rfl, h1⟩ := hv
  unfold wtSltsR at hw
  unfold cntSltsR at hn ⊢
  go_enter Try.func61, Try.ntmps61
  go_wp2_with fail
  refine (heldSlotS_u _ d.slots k _ (sltsR.below h1 (by (repeat (first | exact Below.refl _ _ | assumption | refine Below.drew ?_ | refine balloc ?_ _ | refine bset ?_ (by simp; omega) _ | refine bset ?_ (by simp) _ | refine bstep ?_ (by assumption))))) (by omega) (by omega) (by omega)).mono ?_
  rintro e w1 ⟨rfl, b1⟩
  go_wp2
  go_ret
  refine ⟨?_, by (repeat (first | exact Below.refl _ _ | assumption | refine Below.drew ?_ | refine balloc ?_ _ | refine bset ?_ (by simp; omega) _ | refine bset ?_ (by simp) _ | refine bstep ?_ (by assumption)))⟩
  simp
  try omega
end Go.Proofs.Ytbdbjdnebmaimaa

/-
  Acceptors, in mathematics: their fault, the slot that is asked, a slot put in its place, what is answered.
-/
set_option linter.unusedVariables false
namespace Go.Proofs.Ytbdbjdnebmaimaa
open Go.RowKit
set_option linter.unusedSectionVars false
variable [DecidableEq Vot] [Inhabited Vot] [DecidableEq Slt] [Inhabited Slt] [DecidableEq SltR] [Inhabited SltR] [DecidableEq Bal] [Inhabited Bal] [DecidableEq Ledg] [Inhabited Ledg] [DecidableEq Leg] [Inhabited Leg] [DecidableEq Acc] [Inhabited Acc] [DecidableEq AccR] [Inhabited AccR] [DecidableEq AccsR] [Inhabited AccsR] [DecidableEq SltsR] [Inhabited SltsR]

def cmpZ (x y : Int) : Int := if x < y then -1 else if y < x then 1 else 0
def orZ (x y : Int) : Int := if x = 0 then y else x
def cmpS (x y : Slt) : Int := orZ (cmpZ x.con y.con) (cmpZ x.sh y.sh)
def aheadS (x y : Slt) : Bool := decide (cmpS x y < 0)
theorem cmpZ_lt {x y : Int} : cmpZ x y < 0 ↔ x < y := by unfold cmpZ; (repeat' split) <;> omega
theorem cmpZ_eq {x y : Int} : cmpZ x y = 0 ↔ x = y := by unfold cmpZ; (repeat' split) <;> omega
theorem cmpS_lt {x y : Slt} : cmpS x y < 0 ↔ x.con < y.con ∨ (x.con = y.con ∧ x.sh < y.sh) := by
  have h1 := cmpZ_lt (x := x.con) (y := y.con)
  have h2 := cmpZ_lt (x := x.sh) (y := y.sh)
  have h3 := cmpZ_eq (x := x.con) (y := y.con)
  unfold cmpS orZ
  split <;> omega
theorem cmpS_eq {x y : Slt} : cmpS x y = 0 ↔ x.con = y.con ∧ x.sh = y.sh := by
  have h2 := cmpZ_eq (x := x.sh) (y := y.sh)
  have h3 := cmpZ_eq (x := x.con) (y := y.con)
  unfold cmpS orZ
  split <;> omega
theorem aheadS_iff {x y : Slt} : aheadS x y = true ↔ x.con < y.con ∨ (x.con = y.con ∧ x.sh < y.sh) := by unfold aheadS; rw [decide_eq_true_eq]; exact cmpS_lt
def accAt (xs : List Slt) (k : Nat) : Int := if sltFault (xs.getD k default) = 0 then (if k = 0 then 0 else if aheadS (xs.getD (k - 1) default) (xs.getD k default) = true then 0 else 1) else sltFault (xs.getD k default)
def accF (xs : List Slt) : Int := if 60 < xs.length then 2 else scanI (accAt xs) xs.length
theorem accF_many {xs : List Slt} (h : 60 < xs.length) : accF xs = 2 := by unfold accF; rw [if_pos h]
theorem accF_hit {xs : List Slt} {k : Nat} {c : Int} (h : ¬ 60 < xs.length) (hk : k < xs.length) (hs : scanI (accAt xs) k = 0) (hc : accAt xs k = c) (h0 : ¬ c = 0) : accF xs = c := by
  have e := scanI_hit hs (by rw [hc]; exact h0) _ hk
  unfold accF
  rw [if_neg h, e, hc]
theorem accF_end {xs : List Slt} (h : ¬ 60 < xs.length) (hs : scanI (accAt xs) xs.length = 0) : accF xs = 0 := by unfold accF; rw [if_neg h, hs]
theorem accAt_form {xs : List Slt} {p : Nat} (h : sltFault (xs.getD (p + 1) default) = 0) (h1 : aheadS (xs.getD p default) (xs.getD (p + 1) default) = false) : accAt xs (p + 1) = 1 := by
  unfold accAt
  rw [if_pos h, if_neg (by omega), Nat.add_sub_cancel, h1]
  rfl
structure AccOk (xs : List Slt) : Prop where
  len : xs.length ≤ 60
  ok : ∀ k, k < xs.length → sltFault (xs.getD k default) = 0
  ord : ∀ i j, i < j → j < xs.length → aheadS (xs.getD i default) (xs.getD j default) = true
theorem aheadS_trans {x y z : Slt} (h1 : aheadS x y = true) (h2 : aheadS y z = true) : aheadS x z = true := by
  rw [aheadS_iff] at *
  omega
theorem accOk_of {xs : List Slt} (h : accF xs = 0) : AccOk xs := by
  unfold accF at h
  by_cases h6 : 60 < xs.length
  · rw [if_pos h6] at h; omega
  · rw [if_neg h6] at h
    have hk := scanI_zero h
    have hf : ∀ k, k < xs.length → sltFault (xs.getD k default) = 0 := fun k hk' => by
      have h1 := hk k hk'
      unfold accAt at h1
      split at h1
      · assumption
      · exact h1
    have hs : ∀ k, k + 1 < xs.length → aheadS (xs.getD k default) (xs.getD (k + 1) default) = true := fun k hk' => by
      have h1 := hk (k + 1) hk'
      cases e : aheadS (xs.getD k default) (xs.getD (k + 1) default) with
      | true => rfl
      | false => rw [accAt_form (hf _ hk') e] at h1; omega
    refine ⟨by omega, hf, fun i j hij hj => ?_⟩
    obtain ⟨q, rfl⟩ : ∃ q, j = i + 1 + q := ⟨j - (i + 1), by omega⟩
    clear hij
    induction q with
    | zero => exact hs i (by omega)
    | succ q ih => exact aheadS_trans (ih (by omega)) (hs (i + 1 + q) hj)
def sameS (x f : Slt) : Bool := decide (x.con = f.con) && decide (x.sh = f.sh)
def slotO (xs : List Slt) (f : Slt) : Slt := (xs.find? (fun x => sameS x f)).getD f
theorem sameS_iff {x f : Slt} : sameS x f = true ↔ x.con = f.con ∧ x.sh = f.sh := by simp [sameS]
theorem slotO_none {xs : List Slt} {f : Slt} (h : ∀ k, k < xs.length → sameS (xs.getD k default) f = false) : slotO xs f = f := by
  unfold slotO
  have e : xs.find? (fun x => sameS x f) = none := by
    rw [List.find?_eq_none]
    intro x hx
    obtain ⟨i, hi, rfl⟩ := List.getElem_of_mem hx
    have := h i hi
    rw [List.getD_eq_getElem?_getD, List.getElem?_eq_getElem hi] at this
    simpa using this
  rw [e]
  rfl
theorem slotO_at : ∀ {xs : List Slt} {f : Slt} {i : Nat}, i < xs.length → (∀ k, k < i → sameS (xs.getD k default) f = false) → sameS (xs.getD i default) f = true → slotO xs f = xs.getD i default
  | [], _, _, h, _, _ => by simp at h
  | x :: xs, f, 0, _, _, h => by
    have h' : sameS x f = true := by simpa using h
    unfold slotO
    rw [List.find?_cons, h']
    rfl
  | x :: xs, f, i + 1, hi, hk, h => by
    have h0 : sameS x f = false := by simpa using hk 0 (by omega)
    have ih := slotO_at (xs := xs) (f := f) (i := i) (by simpa using hi) (fun k hk' => by simpa using hk (k + 1) (by omega)) (by simpa using h)
    unfold slotO at ih ⊢
    rw [List.find?_cons, h0]
    simpa using ih
theorem slotO_mem (xs : List Slt) (f : Slt) : slotO xs f = f ∨ (∃ i, i < xs.length ∧ slotO xs f = xs.getD i default ∧ sameS (xs.getD i default) f = true) := by
  unfold slotO
  cases e : xs.find? (fun x => sameS x f) with
  | none => exact .inl rfl
  | some x =>
    have h1 := List.find?_some e
    have h2 := List.mem_of_find?_eq_some e
    obtain ⟨i, hi, hx⟩ := List.getElem_of_mem h2
    have hg : xs.getD i default = x := by rw [List.getD_eq_getElem?_getD, List.getElem?_eq_getElem hi, hx]; rfl
    exact .inr ⟨i, hi, hg.symm, by rw [hg]; exact h1⟩
def freS (c s : Int) : Slt := ⟨c, s, -1, -1, 0, []⟩
def idOk (c s : Int) : Bool := inB c 1 1000000000 && inB s 0 2
theorem newSlt_ok {c s : Int} (h : idOk c s = true) : newSlt c s = ⟨0, 0, 0, freS c s⟩ := by unfold idOk at h; unfold newSlt; rw [h]; rfl
def listF (l : List Acc) : Int := if l.length < 1 ∨ 5 < l.length then 2 else scanI (fun k => accF (l.getD k default).slots) l.length
theorem listF_many {l : List Acc} (h : l.length < 1 ∨ 5 < l.length) : listF l = 2 := by unfold listF; rw [if_pos h]
theorem listF_hit {l : List Acc} {k : Nat} {c : Int} (h : ¬ (l.length < 1 ∨ 5 < l.length)) (hk : k < l.length) (hs : scanI (fun k => accF (l.getD k default).slots) k = 0) (hc : accF (l.getD k default).slots = c) (h0 : ¬ c = 0) : listF l = c := by
  have e := scanI_hit (f := fun k => accF (l.getD k default).slots) hs (by show ¬ accF _ = 0; rw [hc]; exact h0) _ hk
  unfold listF
  rw [if_neg h, e]
  exact hc
theorem listF_end {l : List Acc} (h : ¬ (l.length < 1 ∨ 5 < l.length)) (hs : scanI (fun k => accF (l.getD k default).slots) l.length = 0) : listF l = 0 := by unfold listF; rw [if_neg h, hs]
structure ListOk (l : List Acc) : Prop where
  lo : 1 ≤ l.length
  hi : l.length ≤ 5
  ok : ∀ k, k < l.length → accF (l.getD k default).slots = 0
theorem listOk_of {l : List Acc} (h : listF l = 0) : ListOk l := by
  unfold listF at h
  by_cases h1 : l.length < 1 ∨ 5 < l.length
  · rw [if_pos h1] at h; omega
  · rw [if_neg h1] at h
    exact ⟨by omega, by omega, scanI_zero h⟩
def slotsL (l : List Acc) (c s : Int) : List Slt := l.map (fun a => slotO a.slots (freS c s))
def slotsD (l : List Acc) (c s : Int) : SltsR := if listF l = 0 then (if idOk c s = true then ⟨0, slotsL l c s⟩ else ⟨3, []⟩) else ⟨listF l, []⟩
end Go.Proofs.Ytbdbjdnebmaimaa

/-
  Slots compared, on both sides.
-/
set_option linter.unusedSimpArgs false
set_option linter.unusedVariables false
namespace Go.Proofs.Ytbdbjdnebmaimaa
open Go.RowKit
set_option linter.unusedSectionVars false
variable [DecidableEq Vot] [Inhabited Vot] [DecidableEq Slt] [Inhabited Slt] [DecidableEq SltR] [Inhabited SltR] [DecidableEq Bal] [Inhabited Bal] [DecidableEq Ledg] [Inhabited Ledg] [DecidableEq Leg] [Inhabited Leg] [DecidableEq Acc] [Inhabited Acc] [DecidableEq AccR] [Inhabited AccR] [DecidableEq AccsR] [Inhabited AccsR] [DecidableEq SltsR] [Inhabited SltsR]
attribute [local go_sem ↓] Go.wp_at_zero Go.wp_at_succ

theorem isNaNz_any (x : Int) (w : World) :
    Calls Try.prog 160 #[.int .i64 x] w fun e w' => e = .returned (.bool false) ∧ w' = w := by
  go_enter Try.func160, Try.ntmps160
  go_wp2
  go_ret
  exact ⟨rfl, rfl⟩
set_option maxHeartbeats 1000000 in
theorem cmpZ_any (x y : Int) (w : World) :
    Calls Try.prog 146 #[.int .i64 x, .int .i64 y] w fun e w' => e = .returned (.int .i64 (cmpZ x y)) ∧ w' = w := by
  go_enter Try.func146, Try.ntmps146
  go_wp2_with (go_at_call 160; refine (isNaNz_any _ _).mono ?_; rintro e w' ⟨rfl, rfl⟩)
  all_goals (go_ret; refine ⟨?_, rfl⟩; unfold cmpZ; (repeat' split) <;> first | rfl | (exfalso; omega))
set_option maxHeartbeats 1000000 in
theorem orZ_any (b : Nat) (x y : Int) (w : World) (h0 : w.cell? ⟨b, 0, none⟩ = some (.int .i64 x)) (h1 : w.cell? ⟨b, 1, none⟩ = some (.int .i64 y)) :
    Calls Try.prog 145 #[.slice (some ⟨b, 0, none⟩) 2 2] w fun e w' => e = .returned (.int .i64 (orZ x y)) ∧ w' = w := by
  go_enter Try.func145, Try.ntmps145
  go_wp2
  go_loopw [8] (fun i w' => ∃ k : Nat, k ≤ 2 ∧ i = .int .i64 k ∧ w' = w ∧ (0 < k → x = 0) ∧ (1 < k → y = 0)) (fun i _ => 2 - (intOf i).toNat)
  case atStart => exact ⟨0, by omega, rfl, rfl, by omega, by omega⟩
  case round =>
    obtain ⟨k, hk, rfl, rfl, p0, p1⟩ := hrel
    rcases (show k = 0 ∨ k = 1 ∨ k = 2 by omega) with rfl | rfl | rfl
    · by_cases hx : x = 0
      · subst hx
        go_wp2
        exact ⟨⟨1, by omega, by go_num, by simp⟩, by simp [intOf]⟩
      · go_wp2
        go_ret
        refine ⟨?_, rfl⟩
        unfold orZ
        rw [if_neg hx]
        rfl
    · have hx := p0 (by omega)
      subst hx
      by_cases hy : y = 0
      · subst hy
        go_wp2
        exact ⟨⟨2, by omega, by go_num, by simp⟩, by simp [intOf]⟩
      · go_wp2
        go_ret
        refine ⟨?_, rfl⟩
        unfold orZ
        rw [if_pos rfl]
        rfl
    · have hx := p0 (by omega)
      have hy := p1 (by omega)
      subst hx hy
      go_wp2
      go_ret
      exact ⟨rfl, rfl⟩
set_option maxHeartbeats 2000000 in
theorem compareSlots_any (x y : Slt) (u v : Value) (w : World) :
    Calls Try.prog 106 #[.agg #[.int .i64 x.con, .int .i64 x.sh, .int .i64 x.pr, .int .i64 x.lb, .int .i64 x.lv, u], .agg #[.int .i64 y.con, .int .i64 y.sh, .int .i64 y.pr, .int .i64 y.lb, .int .i64 y.lv, v]] w fun e w' => e = .returned (.int .i64 (cmpS x y)) ∧ Below w.heap.size w w' := by
  go_enter Try.func106, Try.ntmps106
  go_wp2
  go_region_held3 (fun w' => Below w.heap.size w w' ∧ w'.cell? ⟨w.heap.size, 0, none⟩ = some (.int .i64 x.con) ∧ w'.cell? ⟨w.heap.size, 1, none⟩ = some (.int .i64 x.sh) ∧ w'.cell? ⟨w.heap.size + 1, 0, none⟩ = some (.int .i64 y.con) ∧ w'.cell? ⟨w.heap.size + 1, 1, none⟩ = some (.int .i64 y.sh))
    ((refine ⟨?_, ?_, ?_, ?_, ?_⟩; (repeat (first | exact Below.refl _ _ | assumption | refine Below.drew ?_ | refine balloc ?_ _)); all_goals simp [go_sem]))
    (first | (go_at_call 146; refine (cmpZ_any _ _ _).mono ?_; rintro e w' ⟨rfl, rfl⟩) | (go_at_call 145; refine (orZ_any _ (cmpZ x.con y.con) (cmpZ x.sh y.sh) _ ?_ ?_).mono ?_; simp [go_sem]; simp [go_sem]; rintro e w' ⟨rfl, rfl⟩))
  all_goals
    rename_i hH
    have hB := hH.1
    clear hH
    go_wp2
    go_ret
    exact ⟨rfl, hB⟩
set_option maxHeartbeats 1000000 in
theorem l9Ahead_any (x y : Slt) (u v : Value) (w : World) :
    Calls Try.prog 104 #[.agg #[.int .i64 x.con, .int .i64 x.sh, .int .i64 x.pr, .int .i64 x.lb, .int .i64 x.lv, u], .agg #[.int .i64 y.con, .int .i64 y.sh, .int .i64 y.pr, .int .i64 y.lb, .int .i64 y.lv, v]] w fun e w' => e = .returned (.bool (aheadS x y)) ∧ Below w.heap.size w w' := by
  have e : aheadS x y = if x.con = y.con then decide (x.sh < y.sh) else decide (x.con < y.con) := by
    rw [Bool.eq_iff_iff, aheadS_iff]
    split <;> simp only [decide_eq_true_eq] <;> omega
  rw [e]
  by_cases h : x.con = y.con
  · rw [if_pos h]
    have f1 : (x.con != y.con) = false := by simp [h]
    go_enter Try.func104, Try.ntmps104
    go_wp2
    go_ret
    exact ⟨rfl, by (repeat (first | exact Below.refl _ _ | assumption | refine Below.drew ?_ | refine balloc ?_ _ | refine bset ?_ (by simp; omega) _ | refine bset ?_ (by simp) _ | refine bstep ?_ (by assumption)))⟩
  · rw [if_neg h]
    have f1 : (x.con != y.con) = true := by simp [h]
    go_enter Try.func104, Try.ntmps104
    go_wp2
    go_ret
    exact ⟨rfl, by (repeat (first | exact Below.refl _ _ | assumption | refine Below.drew ?_ | refine balloc ?_ _ | refine bset ?_ (by simp; omega) _ | refine bset ?_ (by simp) _ | refine bstep ?_ (by assumption)))⟩
end Go.Proofs.Ytbdbjdnebmaimaa

