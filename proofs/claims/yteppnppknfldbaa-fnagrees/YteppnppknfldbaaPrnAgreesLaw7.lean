import Derived.Test.YteppnppknfldbaaPrnAgreesLaw4
import Derived.Test.YteppnppknfldbaaPrnAgreesLaw5
import Derived.Test.YteppnppknfldbaaPrnAgreesLaw6
import Derived.BigQuiet
import Derived.Deep.QuietTactic
import Derived.Deep.RegionHeld3
import Derived.Test.YteppnppknfldbaaPrnAgreesLaw1

/-
  Acceptors, in mathematics: their fault, the slot that is asked, a slot put in its place, what is answered.
-/
set_option linter.unusedVariables false
namespace Go.Proofs.Yteppnppknfldbaa
open Go.RowKit
set_option linter.unusedSectionVars false
variable [DecidableEq Vot] [Inhabited Vot] [DecidableEq Slt] [Inhabited Slt] [DecidableEq SltR] [Inhabited SltR] [DecidableEq Bal] [Inhabited Bal] [DecidableEq Ledg] [Inhabited Ledg] [DecidableEq Leg] [Inhabited Leg] [DecidableEq Acc] [Inhabited Acc] [DecidableEq AccR] [Inhabited AccR] [DecidableEq AccsR] [Inhabited AccsR] [DecidableEq SltsR] [Inhabited SltsR]

def cmpZ (x y : Int) : Int := if x < y then -1 else if y < x then 1 else 0
def orZ (x y : Int) : Int := if x = 0 then y else x
def cmpS (x y : Slt) : Int := orZ (cmpZ x.con y.con) (cmpZ x.sh y.sh)
def aheadS (x y : Slt) : Bool := decide (cmpS x y < 0)
theorem cmpZ_lt {x y : Int} : cmpZ x y < 0 ↔ x < y := by unfold cmpZ; (repeat' split) <;> omega
theorem cmpZ_eq {x y : Int} : cmpZ x y = 0 ↔ x = y := by unfold cmpZ; (repeat' split) <;> omega
theorem cmpS_lt {x y : Slt} : cmpS x y < 0 ↔ x.con < y.con ∨ (x.con = y.con ∧ x.sh < y.sh) := by
  have h1 := cmpZ_lt (x := x.con) (y := y.con)
  have h2 := cmpZ_lt (x := x.sh) (y := y.sh)
  have h3 := cmpZ_eq (x := x.con) (y := y.con)
  unfold cmpS orZ
  split <;> omega
theorem cmpS_eq {x y : Slt} : cmpS x y = 0 ↔ x.con = y.con ∧ x.sh = y.sh := by
  have h2 := cmpZ_eq (x := x.sh) (y := y.sh)
  have h3 := cmpZ_eq (x := x.con) (y := y.con)
  unfold cmpS orZ
  split <;> omega
theorem aheadS_iff {x y : Slt} : aheadS x y = true ↔ x.con < y.con ∨ (x.con = y.con ∧ x.sh < y.sh) := by unfold aheadS; rw [decide_eq_true_eq]; exact cmpS_lt
theorem aheadS_no {x y : Slt} : aheadS x y = false ↔ ¬ (x.con < y.con ∨ (x.con = y.con ∧ x.sh < y.sh)) := by
  rw [← aheadS_iff]; simp
def accAt (xs : List Slt) (k : Nat) : Int := if sltFault (xs.getD k default) = 0 then (if k = 0 then 0 else if aheadS (xs.getD (k - 1) default) (xs.getD k default) = true then 0 else 1) else sltFault (xs.getD k default)
def accF (xs : List Slt) : Int := if 60 < xs.length then 2 else scanI (accAt xs) xs.length
theorem accF_many {xs : List Slt} (h : 60 < xs.length) : accF xs = 2 := by unfold accF; rw [if_pos h]
theorem accF_hit {xs : List Slt} {k : Nat} {c : Int} (h : ¬ 60 < xs.length) (hk : k < xs.length) (hs : scanI (accAt xs) k = 0) (hc : accAt xs k = c) (h0 : ¬ c = 0) : accF xs = c := by
  have e := scanI_hit hs (by rw [hc]; exact h0) _ hk
  unfold accF
  rw [if_neg h, e, hc]
theorem accF_end {xs : List Slt} (h : ¬ 60 < xs.length) (hs : scanI (accAt xs) xs.length = 0) : accF xs = 0 := by unfold accF; rw [if_neg h, hs]
theorem accAt_first {xs : List Slt} (h : sltFault (xs.getD 0 default) = 0) : accAt xs 0 = 0 := by unfold accAt; rw [if_pos h, if_pos rfl]
theorem accAt_ok {xs : List Slt} {p : Nat} (h : sltFault (xs.getD (p + 1) default) = 0) (h1 : aheadS (xs.getD p default) (xs.getD (p + 1) default) = true) : accAt xs (p + 1) = 0 := by
  unfold accAt
  rw [if_pos h, if_neg (by omega), Nat.add_sub_cancel, if_pos h1]
theorem accAt_form {xs : List Slt} {p : Nat} (h : sltFault (xs.getD (p + 1) default) = 0) (h1 : aheadS (xs.getD p default) (xs.getD (p + 1) default) = false) : accAt xs (p + 1) = 1 := by
  unfold accAt
  rw [if_pos h, if_neg (by omega), Nat.add_sub_cancel, h1]
  rfl
structure AccOk (xs : List Slt) : Prop where
  len : xs.length ≤ 60
  ok : ∀ k, k < xs.length → sltFault (xs.getD k default) = 0
  ord : ∀ i j, i < j → j < xs.length → aheadS (xs.getD i default) (xs.getD j default) = true
theorem aheadS_trans {x y z : Slt} (h1 : aheadS x y = true) (h2 : aheadS y z = true) : aheadS x z = true := by
  rw [aheadS_iff] at *
  omega
theorem accOk_of {xs : List Slt} (h : accF xs = 0) : AccOk xs := by
  unfold accF at h
  by_cases h6 : 60 < xs.length
  · rw [if_pos h6] at h; omega
  · rw [if_neg h6] at h
    have hk := scanI_zero h
    have hf : ∀ k, k < xs.length → sltFault (xs.getD k default) = 0 := fun k hk' => by
      have h1 := hk k hk'
      unfold accAt at h1
      split at h1
      · assumption
      · exact h1
    have hs : ∀ k, k + 1 < xs.length → aheadS (xs.getD k default) (xs.getD (k + 1) default) = true := fun k hk' => by
      have h1 := hk (k + 1) hk'
      cases e : aheadS (xs.getD k default) (xs.getD (k + 1) default) with
      | true => rfl
      | false => rw [accAt_form (hf _ hk') e] at h1; omega
    refine ⟨by omega, hf, fun i j hij hj => ?_⟩
    obtain ⟨q, rfl⟩ : ∃ q, j = i + 1 + q := ⟨j - (i + 1), by omega⟩
    clear hij
    induction q with
    | zero => exact hs i (by omega)
    | succ q ih => exact aheadS_trans (ih (by omega)) (hs (i + 1 + q) hj)
def sameS (x f : Slt) : Bool := decide (x.con = f.con) && decide (x.sh = f.sh)
def slotO (xs : List Slt) (f : Slt) : Slt := (xs.find? (fun x => sameS x f)).getD f
theorem sameS_iff {x f : Slt} : sameS x f = true ↔ x.con = f.con ∧ x.sh = f.sh := by simp [sameS]
theorem slotO_none {xs : List Slt} {f : Slt} (h : ∀ k, k < xs.length → sameS (xs.getD k default) f = false) : slotO xs f = f := by
  unfold slotO
  have e : xs.find? (fun x => sameS x f) = none := by
    rw [List.find?_eq_none]
    intro x hx
    obtain ⟨i, hi, rfl⟩ := List.getElem_of_mem hx
    have := h i hi
    rw [List.getD_eq_getElem?_getD, List.getElem?_eq_getElem hi] at this
    simpa using this
  rw [e]
  rfl
theorem slotO_at : ∀ {xs : List Slt} {f : Slt} {i : Nat}, i < xs.length → (∀ k, k < i → sameS (xs.getD k default) f = false) → sameS (xs.getD i default) f = true → slotO xs f = xs.getD i default
  | [], _, _, h, _, _ => by simp at h
  | x :: xs, f, 0, _, _, h => by
    have h' : sameS x f = true := by simpa using h
    unfold slotO
    rw [List.find?_cons, h']
    rfl
  | x :: xs, f, i + 1, hi, hk, h => by
    have h0 : sameS x f = false := by simpa using hk 0 (by omega)
    have ih := slotO_at (xs := xs) (f := f) (i := i) (by simpa using hi) (fun k hk' => by simpa using hk (k + 1) (by omega)) (by simpa using h)
    unfold slotO at ih ⊢
    rw [List.find?_cons, h0]
    simpa using ih
theorem slotO_mem (xs : List Slt) (f : Slt) : slotO xs f = f ∨ (∃ i, i < xs.length ∧ slotO xs f = xs.getD i default ∧ sameS (xs.getD i default) f = true) := by
  unfold slotO
  cases e : xs.find? (fun x => sameS x f) with
  | none => exact .inl rfl
  | some x =>
    have h1 := List.find?_some e
    have h2 := List.mem_of_find?_eq_some e
    obtain ⟨i, hi, hx⟩ := List.getElem_of_mem h2
    have hg : xs.getD i default = x := by rw [List.getD_eq_getElem?_getD, List.getElem?_eq_getElem hi, hx]; rfl
    exact .inr ⟨i, hi, hg.symm, by rw [hg]; exact h1⟩
theorem slotO_same (xs : List Slt) (f : Slt) : (slotO xs f).con = f.con ∧ (slotO xs f).sh = f.sh := by
  rcases slotO_mem xs f with h | ⟨i, hi, h, h1⟩
  · rw [h]; exact ⟨rfl, rfl⟩
  · rw [h]; exact sameS_iff.1 h1
def freS (c s : Int) : Slt := ⟨c, s, -1, -1, 0, []⟩
def idOk (c s : Int) : Bool := inB c 1 1000000000 && inB s 0 2
theorem newSlt_ok {c s : Int} (h : idOk c s = true) : newSlt c s = ⟨0, 0, 0, freS c s⟩ := by unfold idOk at h; unfold newSlt; rw [h]; rfl
theorem freS_ok {c s : Int} (h : idOk c s = true) : sltFault (freS c s) = 0 := by
  unfold idOk at h
  simp only [Bool.and_eq_true] at h
  have hr : sltRange (freS c s) = true := by unfold sltRange freS; simp only []; rw [h.1, h.2]; decide
  rw [sltF_end hr (by simp [freS]) (by simp [freS, scanI])]
  simp [freS, lastV, noV]
theorem slotO_ok {xs : List Slt} {c s : Int} (ha : AccOk xs) (h : idOk c s = true) : sltFault (slotO xs (freS c s)) = 0 := by
  rcases slotO_mem xs (freS c s) with e | ⟨i, hi, e, _⟩
  · rw [e]; exact freS_ok h
  · rw [e]; exact ha.ok i hi
def posS (s : Slt) : List Slt → Nat
  | [] => 0
  | x :: xs => if aheadS x s = true then posS s xs + 1 else 0
theorem posS_eq {s : Slt} : ∀ {xs : List Slt} {i : Nat}, i ≤ xs.length → (∀ k, k < i → aheadS (xs.getD k default) s = true) → (i < xs.length → aheadS (xs.getD i default) s = false) → posS s xs = i
  | [], i, hi, _, _ => by simp at hi; simp [posS, hi]
  | x :: xs, 0, _, _, h => by
    have : aheadS x s = false := by simpa using h (by simp)
    simp [posS, this]
  | x :: xs, i + 1, hi, h1, h2 => by
    have h0 : aheadS x s = true := by simpa using h1 0 (by omega)
    have ih := posS_eq (s := s) (xs := xs) (i := i) (by simpa using hi) (fun k hk => by simpa using h1 (k + 1) (by omega)) (fun h => by simpa using h2 (by simpa using h))
    simp [posS, h0, ih]
theorem posS_le (s : Slt) : ∀ xs : List Slt, posS s xs ≤ xs.length
  | [] => by simp [posS]
  | x :: xs => by
    have := posS_le s xs
    unfold posS
    split <;> simp <;> omega
def putS (xs : List Slt) (s : Slt) : List Slt := if posS s xs < xs.length ∧ aheadS s (xs.getD (posS s xs) default) = false then xs.set (posS s xs) s else xs.take (posS s xs) ++ [s] ++ xs.drop (posS s xs)
theorem putS_set {xs : List Slt} {s : Slt} {i : Nat} (h0 : posS s xs = i) (h1 : i < xs.length) (h2 : aheadS s (xs.getD i default) = false) : putS xs s = xs.set i s := by unfold putS; rw [h0, if_pos ⟨h1, h2⟩]
theorem putS_ins {xs : List Slt} {s : Slt} {i : Nat} (h0 : posS s xs = i) (h1 : ¬ (i < xs.length ∧ aheadS s (xs.getD i default) = false)) : putS xs s = xs.take i ++ [s] ++ xs.drop i := by unfold putS; rw [h0, if_neg h1]
theorem len_ins (xs : List Slt) (s : Slt) (i : Nat) : (xs.take i ++ [s] ++ xs.drop i).length = xs.length + 1 := by simp only [List.length_append, List.length_take, List.length_drop, List.length_cons, List.length_nil]; omega
theorem putS_len (xs : List Slt) (s : Slt) : (putS xs s).length ≤ xs.length + 1 := by
  unfold putS
  split
  · simp
  · rw [len_ins]; exact Nat.le_refl _
def errA (c : Int) : AccR := ⟨c, 0, 0, ⟨[]⟩⟩
def toldD (xs : List Slt) (r : SltR) : AccR := if r.code = 0 then (if 60 < (putS xs r.slot).length then errA 2 else ⟨0, r.ob, r.ov, ⟨putS xs r.slot⟩⟩) else errA r.code
def promAtD (xs : List Slt) (c s b : Int) : AccR := if accF xs = 0 then (if idOk c s = true then toldD xs (promD (slotO xs (freS c s)) b) else errA 3) else errA (accF xs)
def accAtD (xs : List Slt) (c s b v : Int) : AccR := if accF xs = 0 then (if idOk c s = true then toldD xs (accD (slotO xs (freS c s)) b v) else errA 3) else errA (accF xs)
theorem toldD_code {xs : List Slt} {r : SltR} (h : ¬ r.code = 0) : toldD xs r = errA r.code := by unfold toldD; rw [if_neg h]
theorem toldD_many {xs : List Slt} {r : SltR} (h : r.code = 0) (h1 : 60 < (putS xs r.slot).length) : toldD xs r = errA 2 := by unfold toldD; rw [if_pos h, if_pos h1]
theorem toldD_ok {xs : List Slt} {r : SltR} (h : r.code = 0) (h1 : ¬ 60 < (putS xs r.slot).length) : toldD xs r = ⟨0, r.ob, r.ov, ⟨putS xs r.slot⟩⟩ := by unfold toldD; rw [if_pos h, if_neg h1]
def listF (l : List Acc) : Int := if l.length < 1 ∨ 5 < l.length then 2 else scanI (fun k => accF (l.getD k default).slots) l.length
theorem listF_many {l : List Acc} (h : l.length < 1 ∨ 5 < l.length) : listF l = 2 := by unfold listF; rw [if_pos h]
theorem listF_hit {l : List Acc} {k : Nat} {c : Int} (h : ¬ (l.length < 1 ∨ 5 < l.length)) (hk : k < l.length) (hs : scanI (fun k => accF (l.getD k default).slots) k = 0) (hc : accF (l.getD k default).slots = c) (h0 : ¬ c = 0) : listF l = c := by
  have e := scanI_hit (f := fun k => accF (l.getD k default).slots) hs (by show ¬ accF _ = 0; rw [hc]; exact h0) _ hk
  unfold listF
  rw [if_neg h, e]
  exact hc
theorem listF_end {l : List Acc} (h : ¬ (l.length < 1 ∨ 5 < l.length)) (hs : scanI (fun k => accF (l.getD k default).slots) l.length = 0) : listF l = 0 := by unfold listF; rw [if_neg h, hs]
structure ListOk (l : List Acc) : Prop where
  lo : 1 ≤ l.length
  hi : l.length ≤ 5
  ok : ∀ k, k < l.length → accF (l.getD k default).slots = 0
theorem listOk_of {l : List Acc} (h : listF l = 0) : ListOk l := by
  unfold listF at h
  by_cases h1 : l.length < 1 ∨ 5 < l.length
  · rw [if_pos h1] at h; omega
  · rw [if_neg h1] at h
    exact ⟨by omega, by omega, scanI_zero h⟩
def slotsL (l : List Acc) (c s : Int) : List Slt := l.map (fun a => slotO a.slots (freS c s))
def slotsD (l : List Acc) (c s : Int) : SltsR := if listF l = 0 then (if idOk c s = true then ⟨0, slotsL l c s⟩ else ⟨3, []⟩) else ⟨listF l, []⟩
end Go.Proofs.Yteppnppknfldbaa

/-
  Slots compared, on both sides.
-/
set_option linter.unusedSimpArgs false
set_option linter.unusedVariables false
namespace Go.Proofs.Yteppnppknfldbaa
open Go.RowKit
set_option linter.unusedSectionVars false
variable [DecidableEq Vot] [Inhabited Vot] [DecidableEq Slt] [Inhabited Slt] [DecidableEq SltR] [Inhabited SltR] [DecidableEq Bal] [Inhabited Bal] [DecidableEq Ledg] [Inhabited Ledg] [DecidableEq Leg] [Inhabited Leg] [DecidableEq Acc] [Inhabited Acc] [DecidableEq AccR] [Inhabited AccR] [DecidableEq AccsR] [Inhabited AccsR] [DecidableEq SltsR] [Inhabited SltsR]
attribute [local go_sem ↓] Go.wp_at_zero Go.wp_at_succ

theorem isNaNz_any (x : Int) (w : World) :
    Calls Try.prog 61 #[.int .i64 x] w fun e w' => e = .returned (.bool false) ∧ w' = w := by
  go_enter Try.func61, Try.ntmps61
  go_wp2
  go_ret
  exact ⟨rfl, rfl⟩
set_option maxHeartbeats 1000000 in
theorem cmpZ_any (x y : Int) (w : World) :
    Calls Try.prog 56 #[.int .i64 x, .int .i64 y] w fun e w' => e = .returned (.int .i64 (cmpZ x y)) ∧ w' = w := by
  go_enter Try.func56, Try.ntmps56
  go_wp2_with (go_at_call 61; refine (isNaNz_any _ _).mono ?_; rintro e w' ⟨rfl, rfl⟩)
  all_goals (go_ret; refine ⟨?_, rfl⟩; unfold cmpZ; (repeat' split) <;> first | rfl | (exfalso; omega))
set_option maxHeartbeats 1000000 in
theorem orZ_any (b : Nat) (x y : Int) (w : World) (h0 : w.cell? ⟨b, 0, none⟩ = some (.int .i64 x)) (h1 : w.cell? ⟨b, 1, none⟩ = some (.int .i64 y)) :
    Calls Try.prog 55 #[.slice (some ⟨b, 0, none⟩) 2 2] w fun e w' => e = .returned (.int .i64 (orZ x y)) ∧ w' = w := by
  go_enter Try.func55, Try.ntmps55
  go_wp2
  go_loopw [8] (fun i w' => ∃ k : Nat, k ≤ 2 ∧ i = .int .i64 k ∧ w' = w ∧ (0 < k → x = 0) ∧ (1 < k → y = 0)) (fun i _ => 2 - (intOf i).toNat)
  case atStart => exact ⟨0, by omega, rfl, rfl, by omega, by omega⟩
  case round =>
    obtain ⟨k, hk, rfl, rfl, p0, p1⟩ := hrel
    rcases (show k = 0 ∨ k = 1 ∨ k = 2 by omega) with rfl | rfl | rfl
    · by_cases hx : x = 0
      · subst hx
        go_wp2
        exact ⟨⟨1, by omega, by go_num, by simp⟩, by simp [intOf]⟩
      · go_wp2
        go_ret
        refine ⟨?_, rfl⟩
        unfold orZ
        rw [if_neg hx]
        rfl
    · have hx := p0 (by omega)
      subst hx
      by_cases hy : y = 0
      · subst hy
        go_wp2
        exact ⟨⟨2, by omega, by go_num, by simp⟩, by simp [intOf]⟩
      · go_wp2
        go_ret
        refine ⟨?_, rfl⟩
        unfold orZ
        rw [if_pos rfl]
        rfl
    · have hx := p0 (by omega)
      have hy := p1 (by omega)
      subst hx hy
      go_wp2
      go_ret
      exact ⟨rfl, rfl⟩
set_option maxHeartbeats 2000000 in
theorem compareSlots_any (x y : Slt) (u v : Value) (w : World) :
    Calls Try.prog 48 #[.agg #[.int .i64 x.con, .int .i64 x.sh, .int .i64 x.pr, .int .i64 x.lb, .int .i64 x.lv, u], .agg #[.int .i64 y.con, .int .i64 y.sh, .int .i64 y.pr, .int .i64 y.lb, .int .i64 y.lv, v]] w fun e w' => e = .returned (.int .i64 (cmpS x y)) ∧ Below w.heap.size w w' := by
  go_enter Try.func48, Try.ntmps48
  go_wp2
  go_region_held3 (fun w' => Below w.heap.size w w' ∧ w'.cell? ⟨w.heap.size, 0, none⟩ = some (.int .i64 x.con) ∧ w'.cell? ⟨w.heap.size, 1, none⟩ = some (.int .i64 x.sh) ∧ w'.cell? ⟨w.heap.size + 1, 0, none⟩ = some (.int .i64 y.con) ∧ w'.cell? ⟨w.heap.size + 1, 1, none⟩ = some (.int .i64 y.sh))
    ((refine ⟨?_, ?_, ?_, ?_, ?_⟩; (repeat (first | exact Below.refl _ _ | assumption | refine Below.drew ?_ | refine balloc ?_ _)); all_goals simp [go_sem]))
    (first | (go_at_call 56; refine (cmpZ_any _ _ _).mono ?_; rintro e w' ⟨rfl, rfl⟩) | (go_at_call 55; refine (orZ_any _ (cmpZ x.con y.con) (cmpZ x.sh y.sh) _ ?_ ?_).mono ?_; simp [go_sem]; simp [go_sem]; rintro e w' ⟨rfl, rfl⟩))
  all_goals
    rename_i hH
    have hB := hH.1
    clear hH
    go_wp2
    go_ret
    exact ⟨rfl, hB⟩
end Go.Proofs.Yteppnppknfldbaa

/-
  Two slots' cells, and one more.
-/
set_option linter.unusedSimpArgs false
set_option linter.unusedVariables false
namespace Go.Proofs.Yteppnppknfldbaa
open Go.RowKit
set_option linter.unusedSectionVars false
variable [DecidableEq Vot] [Inhabited Vot] [DecidableEq Slt] [Inhabited Slt] [DecidableEq SltR] [Inhabited SltR] [DecidableEq Bal] [Inhabited Bal] [DecidableEq Ledg] [Inhabited Ledg] [DecidableEq Leg] [Inhabited Leg] [DecidableEq Acc] [Inhabited Acc] [DecidableEq AccR] [Inhabited AccR] [DecidableEq AccsR] [Inhabited AccsR] [DecidableEq SltsR] [Inhabited SltsR]
attribute [local go_sem ↓] Go.wp_at_zero Go.wp_at_succ

theorem sltKeep3 {w w' : World} {b o b' o' : Nat} {x y : Slt} {u v : Value} {p : Addr} {q : Value} (hb : Below w.heap.size w w') (h : w.cell? ⟨b, o, none⟩ = some (.int .i64 x.con) ∧ w.cell? ⟨b, o + 1, none⟩ = some (.int .i64 x.sh) ∧ w.cell? ⟨b, o + 2, none⟩ = some (.int .i64 x.pr) ∧ w.cell? ⟨b, o + 3, none⟩ = some (.int .i64 x.lb) ∧ w.cell? ⟨b, o + 4, none⟩ = some (.int .i64 x.lv) ∧ w.cell? ⟨b, o + 5, none⟩ = some (u)) (h' : w.cell? ⟨b', o', none⟩ = some (.int .i64 y.con) ∧ w.cell? ⟨b', o' + 1, none⟩ = some (.int .i64 y.sh) ∧ w.cell? ⟨b', o' + 2, none⟩ = some (.int .i64 y.pr) ∧ w.cell? ⟨b', o' + 3, none⟩ = some (.int .i64 y.lb) ∧ w.cell? ⟨b', o' + 4, none⟩ = some (.int .i64 y.lv) ∧ w.cell? ⟨b', o' + 5, none⟩ = some (v)) (hq : w.cell? p = some q) :
    Below w.heap.size w w' ∧ (w'.cell? ⟨b, o, none⟩ = some (.int .i64 x.con) ∧ w'.cell? ⟨b, o + 1, none⟩ = some (.int .i64 x.sh) ∧ w'.cell? ⟨b, o + 2, none⟩ = some (.int .i64 x.pr) ∧ w'.cell? ⟨b, o + 3, none⟩ = some (.int .i64 x.lb) ∧ w'.cell? ⟨b, o + 4, none⟩ = some (.int .i64 x.lv) ∧ w'.cell? ⟨b, o + 5, none⟩ = some (u)) ∧ (w'.cell? ⟨b', o', none⟩ = some (.int .i64 y.con) ∧ w'.cell? ⟨b', o' + 1, none⟩ = some (.int .i64 y.sh) ∧ w'.cell? ⟨b', o' + 2, none⟩ = some (.int .i64 y.pr) ∧ w'.cell? ⟨b', o' + 3, none⟩ = some (.int .i64 y.lb) ∧ w'.cell? ⟨b', o' + 4, none⟩ = some (.int .i64 y.lv) ∧ w'.cell? ⟨b', o' + 5, none⟩ = some (v)) ∧ w'.cell? p = some q :=
  ⟨hb, ⟨cell_keep hb h.1, cell_keep hb h.2.1, cell_keep hb h.2.2.1, cell_keep hb h.2.2.2.1, cell_keep hb h.2.2.2.2.1, cell_keep hb h.2.2.2.2.2⟩, ⟨cell_keep hb h'.1, cell_keep hb h'.2.1, cell_keep hb h'.2.2.1, cell_keep hb h'.2.2.2.1, cell_keep hb h'.2.2.2.2.1, cell_keep hb h'.2.2.2.2.2⟩, cell_keep hb hq⟩
end Go.Proofs.Yteppnppknfldbaa

/-
  A region that draws its order and ends in one store (number t): what is asked of the world (S) need not hold behind that store.
-/
namespace Go.Proofs.Yteppnppknfldbaa
open Go.RowKit

section
variable {P : Program} {ops : Array Oper} {Q : Exit → Act → World → Prop} {md : Region.Mode} {S : World → Prop} {t : Nat}

def wpUpto (P : Program) (md : Region.Mode) (ops : Array Oper) (Q : Exit → Act → World → Prop) (S : World → Prop) (t : Nat) : Nat → Array Bool → Act → World → Prop
  | 0, listed, a, w => Region.ready md ops listed = [] ∧ Q .normal a w
  | f + 1, listed, a, w => (Region.ready md ops listed = [] → Q .normal a w) ∧ ∀ i ∈ Region.ready md ops listed, wpOp P ops Q i (fun a' w' => (i ≠ t → S w') ∧ wpUpto P md ops Q S t f (listed.setIfInBounds i true) a' w') a w
theorem upto_any : ∀ (f : Nat) (listed : Array Bool) (a : Act) (w : World), wpUpto P md ops Q S t f listed a w → wpAny P md ops Q f listed a w
  | 0, _, _, _, h => h
  | f + 1, _, _, _, h => ⟨h.1, fun i hi => wpOp_mono (fun _ _ h' => upto_any f _ _ _ h'.2) (h.2 i hi)⟩
def waitsFor (md : Region.Mode) (ops : Array Oper) (t i : Nat) : Bool :=
  match ops[t]? with
  | some o => o.after.any (fun e => Region.binds md e && e.on == i)
  | none => false
theorem upto_first {i : Nat} {oi : Oper} {v : Value} (hi : ops[i]? = some oi) (hsel : Region.noSelect ops = true) (hw : waitsFor md ops t i = true)
    (hQ : ∀ c a w, Q (.panic c) (a.put oi.dst v) w → Q (.panic c) a w) :
    ∀ (f : Nat) (listed : Array Bool) (a : Act) (w : World),
      (∀ j oj, ops[j]? = some oj → j ≠ i → listed.getD j true = false → (∀ e ∈ oj.after, Region.binds md e = true → e.on ≠ i) → oi.apart ops oj = true) →
      i ∈ Region.ready md ops listed → YieldsIf P ops S oi v a → S w →
      wpUpto P md ops Q S t f (listed.setIfInBounds i true) (a.put oi.dst v) w → wpUpto P md ops Q S t (f + 1) listed a w := by
  intro f
  induction f with
  | zero =>
    intro listed a w _ hr hy hS H
    refine ⟨fun h => (by rw [h] at hr; cases hr), fun j hj => ?_⟩
    by_cases hji : j = i
    · subst hji
      exact hy.wpOp hi hS ⟨fun _ => hS, H⟩
    · have hm := ready_mono hj hji
      rw [H.1] at hm
      cases hm
  | succ f ih =>
    intro listed a w hfree hr hy hS H
    refine ⟨fun h => (by rw [h] at hr; cases hr), fun j hj => ?_⟩
    by_cases hji : j = i
    · subst hji
      exact hy.wpOp hi hS ⟨fun _ => hS, H⟩
    · obtain ⟨hjun, oj, hoj, hall⟩ := mem_ready.1 hj
      have hun := (mem_ready.1 hr).1
      have hnl : ¬ listed.getD i false = true := by
        intro h1
        rcases Nat.lt_or_ge i listed.size with h' | h'
        · simp [h'] at hun h1
          rw [hun] at h1
          cases h1
        · simp [Array.getElem?_eq_none h'] at h1
      have hnot : ∀ e ∈ oj.after, Region.binds md e = true → e.on ≠ i := fun e he hb heq => hnl (by rw [← heq]; exact hall e he hb)
      have hjt : j ≠ t := by
        rintro rfl
        unfold waitsFor at hw
        rw [hoj] at hw
        obtain ⟨e, he, hb⟩ := Array.any_eq_true'.1 hw
        simp only [Bool.and_eq_true, beq_iff_eq] at hb
        exact hnot e he hb.1 hb.2
      have h1 := H.2 j (ready_mono hj hji)
      have h2 := wpOp_putIf hoj (hfree j oj hoj hji hjun hnot) (fun cs b => Region.noSelect_spec hsel i oi cs b hi) (fun cs b => Region.noSelect_spec hsel j oj cs b hoj) hQ hy h1
      refine wpOp_mono (fun a' w' h3 => ⟨h3.2.1, ih (listed.setIfInBounds j true) a' w' ?_ (ready_mono hr (Ne.symm hji)) h3.1 (h3.2.1 hjt) ?_⟩) h2
      · intro k ok hk hki hunk hno
        refine hfree k ok hk hki ?_ hno
        by_cases hjk : j = k
        · subst hjk; exact hjun
        · rw [getD_set_ne true hjk] at hunk; exact hunk
      · rw [Array.setIfInBounds_comm _ _ hji]
        exact h3.2.2
theorem upto_take {i : Nat} {oi : Oper} {v : Value} {f : Nat} {listed : Array Bool} {a : Act} {w : World} (hi : ops[i]? = some oi) (hsel : Region.noSelect ops = true) (hw : waitsFor md ops t i = true)
    (hf : Region.free md ops listed i = true) (hr : (Region.ready md ops listed).contains i = true) (hQ : ∀ c a w, Q (.panic c) (a.put oi.dst v) w → Q (.panic c) a w)
    (hwd : Region.wanted oi (yielded ops a.tmps) = true) (hS : S w) (hy : ∀ w, S w → (execOp a.eval oi).run P w = .ok (.value v) w)
    (h : wpUpto P md ops Q S t f (listed.setIfInBounds i true) (a.put oi.dst v) w) : wpUpto P md ops Q S t (f + 1) listed a w :=
  upto_first hi hsel hw hQ f listed a w (Region.free_spec hi hf) (by simpa using hr) (Or.inl ⟨hwd, hy⟩) hS h
theorem upto_step {i : Nat} {o : Oper} {f : Nat} {listed : Array Bool} {a : Act} {w : World} (hr : Region.ready md ops listed = [i]) (hi : ops[i]? = some o)
    (h : ∀ K : Act → World → Prop, (∀ a' w', (i ≠ t → S w') → wpUpto P md ops Q S t f (listed.setIfInBounds i true) a' w' → K a' w') → if Region.wanted o (yielded ops a.tmps) = true then Oper.wp P o a w K Q else K (a.put o.dst undef) w) :
    wpUpto P md ops Q S t (f + 1) listed a w := by
  refine ⟨fun h0 => (by rw [hr] at h0; cases h0), fun j hj => ?_⟩
  rw [hr] at hj
  have e : j = i := by simpa using hj
  subst e
  have h1 := h (fun a' w' => (j ≠ t → S w') ∧ wpUpto P md ops Q S t f (listed.setIfInBounds j true) a' w') (fun _ _ p q => ⟨p, q⟩)
  unfold wpOp
  simp only [hi]
  split
  · rename_i hw
    rw [if_pos hw] at h1
    exact .inl h1
  · rename_i hw
    rw [if_neg hw] at h1
    exact h1
theorem upto_done {listed : Array Bool} {a : Act} {w : World} {f : Nat} (hr : Region.ready md ops listed = []) (h : Q .normal a w) : wpUpto P md ops Q S t f listed a w := by
  cases f with
  | zero => exact ⟨hr, h⟩
  | succ f => exact ⟨fun _ => h, by rw [hr]; simp⟩
theorem region_upto {id : Nat} {a : Act} {w : World} (S : World → Prop) (t : Nat) (hm : P.follows .mixedOrders = true) (hS : S w.drew) (h : S w.drew → wpUpto P .any ops Q S t ops.size (Array.replicate ops.size false) a w.drew) : (Code.region id ops true).wp P Q a w :=
  wp_region_any hm (upto_any _ _ _ _ (h hS))
end

end Go.Proofs.Yteppnppknfldbaa

