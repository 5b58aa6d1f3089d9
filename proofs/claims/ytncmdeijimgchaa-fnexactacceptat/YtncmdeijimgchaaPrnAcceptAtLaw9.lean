import Derived.Test.YtncmdeijimgchaaPrnAcceptAtLaw2
import Derived.Test.YtncmdeijimgchaaPrnAcceptAtLaw1
import Derived.Test.YtncmdeijimgchaaPrnAcceptAtLaw6
import Derived.Test.YtncmdeijimgchaaPrnAcceptAtLaw8
import Derived.Test.YtncmdeijimgchaaPrnAcceptAtLaw5
import Derived.Test.YtncmdeijimgchaaPrnAcceptAtLaw7
import Derived.Deep.AppendLies
import Derived.BigQuiet
import Derived.Deep.QuietTactic
import Derived.Deep.RegionHeld3

/-
  SlotsResult. (Written by program: nest.py.)
-/
namespace Go.Proofs.Ytncmdeijimgchaa
open Go.RowKit
set_option linter.unusedSectionVars false
variable [DecidableEq Vot] [Inhabited Vot] [DecidableEq Slt] [Inhabited Slt]
attribute [local go_sem ↓] Go.wp_at_zero Go.wp_at_succ

structure SltsR where
  code : Int
  slots : List Slt
variable [DecidableEq SltsR] [Inhabited SltsR]

end Go.Proofs.Ytncmdeijimgchaa

/-
  Acceptors, in mathematics: their fault, the slot that is asked, a slot put in its place, what is answered.
-/
set_option linter.unusedVariables false
namespace Go.Proofs.Ytncmdeijimgchaa
open Go.RowKit
set_option linter.unusedSectionVars false
variable [DecidableEq Vot] [Inhabited Vot] [DecidableEq Slt] [Inhabited Slt] [DecidableEq SltR] [Inhabited SltR] [DecidableEq Bal] [Inhabited Bal] [DecidableEq Ledg] [Inhabited Ledg] [DecidableEq Leg] [Inhabited Leg] [DecidableEq Acc] [Inhabited Acc] [DecidableEq AccR] [Inhabited AccR] [DecidableEq AccsR] [Inhabited AccsR] [DecidableEq SltsR] [Inhabited SltsR]

def cmpZ (x y : Int) : Int := if x < y then -1 else if y < x then 1 else 0
def orZ (x y : Int) : Int := if x = 0 then y else x
def cmpS (x y : Slt) : Int := orZ (cmpZ x.con y.con) (cmpZ x.sh y.sh)
def aheadS (x y : Slt) : Bool := decide (cmpS x y < 0)
theorem cmpZ_lt {x y : Int} : cmpZ x y < 0 ↔ x < y := by unfold cmpZ; (repeat' split) <;> omega
theorem cmpZ_eq {x y : Int} : cmpZ x y = 0 ↔ x = y := by unfold cmpZ; (repeat' split) <;> omega
theorem cmpS_lt {x y : Slt} : cmpS x y < 0 ↔ x.con < y.con ∨ (x.con = y.con ∧ x.sh < y.sh) := by
  have h1 := cmpZ_lt (x := x.con) (y := y.con)
  have h2 := cmpZ_lt (x := x.sh) (y := y.sh)
  have h3 := cmpZ_eq (x := x.con) (y := y.con)
  unfold cmpS orZ
  split <;> omega
theorem cmpS_eq {x y : Slt} : cmpS x y = 0 ↔ x.con = y.con ∧ x.sh = y.sh := by
  have h2 := cmpZ_eq (x := x.sh) (y := y.sh)
  have h3 := cmpZ_eq (x := x.con) (y := y.con)
  unfold cmpS orZ
  split <;> omega
theorem aheadS_iff {x y : Slt} : aheadS x y = true ↔ x.con < y.con ∨ (x.con = y.con ∧ x.sh < y.sh) := by unfold aheadS; rw [decide_eq_true_eq]; exact cmpS_lt
theorem aheadS_no {x y : Slt} : aheadS x y = false ↔ ¬ (x.con < y.con ∨ (x.con = y.con ∧ x.sh < y.sh)) := by
  rw [← aheadS_iff]; simp
def accAt (xs : List Slt) (k : Nat) : Int := if sltFault (xs.getD k default) = 0 then (if k = 0 then 0 else if aheadS (xs.getD (k - 1) default) (xs.getD k default) = true then 0 else 1) else sltFault (xs.getD k default)
def accF (xs : List Slt) : Int := if 60 < xs.length then 2 else scanI (accAt xs) xs.length
theorem accF_many {xs : List Slt} (h : 60 < xs.length) : accF xs = 2 := by unfold accF; rw [if_pos h]
theorem accF_hit {xs : List Slt} {k : Nat} {c : Int} (h : ¬ 60 < xs.length) (hk : k < xs.length) (hs : scanI (accAt xs) k = 0) (hc : accAt xs k = c) (h0 : ¬ c = 0) : accF xs = c := by
  have e := scanI_hit hs (by rw [hc]; exact h0) _ hk
  unfold accF
  rw [if_neg h, e, hc]
theorem accF_end {xs : List Slt} (h : ¬ 60 < xs.length) (hs : scanI (accAt xs) xs.length = 0) : accF xs = 0 := by unfold accF; rw [if_neg h, hs]
theorem accAt_form {xs : List Slt} {p : Nat} (h : sltFault (xs.getD (p + 1) default) = 0) (h1 : aheadS (xs.getD p default) (xs.getD (p + 1) default) = false) : accAt xs (p + 1) = 1 := by
  unfold accAt
  rw [if_pos h, if_neg (by omega), Nat.add_sub_cancel, h1]
  rfl
structure AccOk (xs : List Slt) : Prop where
  len : xs.length ≤ 60
  ok : ∀ k, k < xs.length → sltFault (xs.getD k default) = 0
  ord : ∀ i j, i < j → j < xs.length → aheadS (xs.getD i default) (xs.getD j default) = true
theorem aheadS_trans {x y z : Slt} (h1 : aheadS x y = true) (h2 : aheadS y z = true) : aheadS x z = true := by
  rw [aheadS_iff] at *
  omega
theorem accOk_of {xs : List Slt} (h : accF xs = 0) : AccOk xs := by
  unfold accF at h
  by_cases h6 : 60 < xs.length
  · rw [if_pos h6] at h; omega
  · rw [if_neg h6] at h
    have hk := scanI_zero h
    have hf : ∀ k, k < xs.length → sltFault (xs.getD k default) = 0 := fun k hk' => by
      have h1 := hk k hk'
      unfold accAt at h1
      split at h1
      · assumption
      · exact h1
    have hs : ∀ k, k + 1 < xs.length → aheadS (xs.getD k default) (xs.getD (k + 1) default) = true := fun k hk' => by
      have h1 := hk (k + 1) hk'
      cases e : aheadS (xs.getD k default) (xs.getD (k + 1) default) with
      | true => rfl
      | false => rw [accAt_form (hf _ hk') e] at h1; omega
    refine ⟨by omega, hf, fun i j hij hj => ?_⟩
    obtain ⟨q, rfl⟩ : ∃ q, j = i + 1 + q := ⟨j - (i + 1), by omega⟩
    clear hij
    induction q with
    | zero => exact hs i (by omega)
    | succ q ih => exact aheadS_trans (ih (by omega)) (hs (i + 1 + q) hj)
def sameS (x f : Slt) : Bool := decide (x.con = f.con) && decide (x.sh = f.sh)
def slotO (xs : List Slt) (f : Slt) : Slt := (xs.find? (fun x => sameS x f)).getD f
theorem sameS_iff {x f : Slt} : sameS x f = true ↔ x.con = f.con ∧ x.sh = f.sh := by simp [sameS]
theorem slotO_none {xs : List Slt} {f : Slt} (h : ∀ k, k < xs.length → sameS (xs.getD k default) f = false) : slotO xs f = f := by
  unfold slotO
  have e : xs.find? (fun x => sameS x f) = none := by
    rw [List.find?_eq_none]
    intro x hx
    obtain ⟨i, hi, rfl⟩ := List.getElem_of_mem hx
    have := h i hi
    rw [List.getD_eq_getElem?_getD, List.getElem?_eq_getElem hi] at this
    simpa using this
  rw [e]
  rfl
theorem slotO_at : ∀ {xs : List Slt} {f : Slt} {i : Nat}, i < xs.length → (∀ k, k < i → sameS (xs.getD k default) f = false) → sameS (xs.getD i default) f = true → slotO xs f = xs.getD i default
  | [], _, _, h, _, _ => by simp at h
  | x :: xs, f, 0, _, _, h => by
    have h' : sameS x f = true := by simpa using h
    unfold slotO
    rw [List.find?_cons, h']
    rfl
  | x :: xs, f, i + 1, hi, hk, h => by
    have h0 : sameS x f = false := by simpa using hk 0 (by omega)
    have ih := slotO_at (xs := xs) (f := f) (i := i) (by simpa using hi) (fun k hk' => by simpa using hk (k + 1) (by omega)) (by simpa using h)
    unfold slotO at ih ⊢
    rw [List.find?_cons, h0]
    simpa using ih
theorem slotO_mem (xs : List Slt) (f : Slt) : slotO xs f = f ∨ (∃ i, i < xs.length ∧ slotO xs f = xs.getD i default ∧ sameS (xs.getD i default) f = true) := by
  unfold slotO
  cases e : xs.find? (fun x => sameS x f) with
  | none => exact .inl rfl
  | some x =>
    have h1 := List.find?_some e
    have h2 := List.mem_of_find?_eq_some e
    obtain ⟨i, hi, hx⟩ := List.getElem_of_mem h2
    have hg : xs.getD i default = x := by rw [List.getD_eq_getElem?_getD, List.getElem?_eq_getElem hi, hx]; rfl
    exact .inr ⟨i, hi, hg.symm, by rw [hg]; exact h1⟩
def freS (c s : Int) : Slt := ⟨c, s, -1, -1, 0, []⟩
def idOk (c s : Int) : Bool := inB c 1 1000000000 && inB s 0 2
theorem newSlt_ok {c s : Int} (h : idOk c s = true) : newSlt c s = ⟨0, 0, 0, freS c s⟩ := by unfold idOk at h; unfold newSlt; rw [h]; rfl
theorem freS_ok {c s : Int} (h : idOk c s = true) : sltFault (freS c s) = 0 := by
  unfold idOk at h
  simp only [Bool.and_eq_true] at h
  have hr : sltRange (freS c s) = true := by unfold sltRange freS; simp only []; rw [h.1, h.2]; decide
  rw [sltF_end hr (by simp [freS]) (by simp [freS, scanI])]
  simp [freS, lastV, noV]
theorem slotO_ok {xs : List Slt} {c s : Int} (ha : AccOk xs) (h : idOk c s = true) : sltFault (slotO xs (freS c s)) = 0 := by
  rcases slotO_mem xs (freS c s) with e | ⟨i, hi, e, _⟩
  · rw [e]; exact freS_ok h
  · rw [e]; exact ha.ok i hi
def posS (s : Slt) : List Slt → Nat
  | [] => 0
  | x :: xs => if aheadS x s = true then posS s xs + 1 else 0
theorem posS_eq {s : Slt} : ∀ {xs : List Slt} {i : Nat}, i ≤ xs.length → (∀ k, k < i → aheadS (xs.getD k default) s = true) → (i < xs.length → aheadS (xs.getD i default) s = false) → posS s xs = i
  | [], i, hi, _, _ => by simp at hi; simp [posS, hi]
  | x :: xs, 0, _, _, h => by
    have : aheadS x s = false := by simpa using h (by simp)
    simp [posS, this]
  | x :: xs, i + 1, hi, h1, h2 => by
    have h0 : aheadS x s = true := by simpa using h1 0 (by omega)
    have ih := posS_eq (s := s) (xs := xs) (i := i) (by simpa using hi) (fun k hk => by simpa using h1 (k + 1) (by omega)) (fun h => by simpa using h2 (by simpa using h))
    simp [posS, h0, ih]
def putS (xs : List Slt) (s : Slt) : List Slt := if posS s xs < xs.length ∧ aheadS s (xs.getD (posS s xs) default) = false then xs.set (posS s xs) s else xs.take (posS s xs) ++ [s] ++ xs.drop (posS s xs)
theorem putS_set {xs : List Slt} {s : Slt} {i : Nat} (h0 : posS s xs = i) (h1 : i < xs.length) (h2 : aheadS s (xs.getD i default) = false) : putS xs s = xs.set i s := by unfold putS; rw [h0, if_pos ⟨h1, h2⟩]
theorem putS_ins {xs : List Slt} {s : Slt} {i : Nat} (h0 : posS s xs = i) (h1 : ¬ (i < xs.length ∧ aheadS s (xs.getD i default) = false)) : putS xs s = xs.take i ++ [s] ++ xs.drop i := by unfold putS; rw [h0, if_neg h1]
theorem len_ins (xs : List Slt) (s : Slt) (i : Nat) : (xs.take i ++ [s] ++ xs.drop i).length = xs.length + 1 := by simp only [List.length_append, List.length_take, List.length_drop, List.length_cons, List.length_nil]; omega
theorem putS_len (xs : List Slt) (s : Slt) : (putS xs s).length ≤ xs.length + 1 := by
  unfold putS
  split
  · simp
  · rw [len_ins]; exact Nat.le_refl _
def errA (c : Int) : AccR := ⟨c, 0, 0, ⟨[]⟩⟩
def toldD (xs : List Slt) (r : SltR) : AccR := if r.code = 0 then (if 60 < (putS xs r.slot).length then errA 2 else ⟨0, r.ob, r.ov, ⟨putS xs r.slot⟩⟩) else errA r.code
def accAtD (xs : List Slt) (c s b v : Int) : AccR := if accF xs = 0 then (if idOk c s = true then toldD xs (accD (slotO xs (freS c s)) b v) else errA 3) else errA (accF xs)
theorem toldD_code {xs : List Slt} {r : SltR} (h : ¬ r.code = 0) : toldD xs r = errA r.code := by unfold toldD; rw [if_neg h]
theorem toldD_many {xs : List Slt} {r : SltR} (h : r.code = 0) (h1 : 60 < (putS xs r.slot).length) : toldD xs r = errA 2 := by unfold toldD; rw [if_pos h, if_pos h1]
theorem toldD_ok {xs : List Slt} {r : SltR} (h : r.code = 0) (h1 : ¬ 60 < (putS xs r.slot).length) : toldD xs r = ⟨0, r.ob, r.ov, ⟨putS xs r.slot⟩⟩ := by unfold toldD; rw [if_pos h, if_neg h1]
end Go.Proofs.Ytncmdeijimgchaa

/-
  A slot stored in another's place; where it stands.
-/
set_option linter.unusedVariables false
namespace Go.Proofs.Ytncmdeijimgchaa
open Go.RowKit
set_option linter.unusedSectionVars false
variable [DecidableEq Vot] [Inhabited Vot] [DecidableEq Slt] [Inhabited Slt] [DecidableEq Bal] [Inhabited Bal] [DecidableEq Ledg] [Inhabited Ledg] [DecidableEq Leg] [Inhabited Leg] [DecidableEq SltR] [Inhabited SltR] [DecidableEq Acc] [Inhabited Acc] [DecidableEq AccR] [Inhabited AccR] [DecidableEq AccsR] [Inhabited AccsR] [DecidableEq SltsR] [Inhabited SltsR]

theorem Mod.frozen9 {F : Nat → Prop} {w w' : World} (h : Mod F w w') {a : Addr} (hl : a.block < w.heap.size) (hn : ¬ F a.block) : w'.frozen? a = w.frozen? a := World.frozen?_of_block (h.block a.block hl hn)
theorem slts_store {w : World} {base g cap i : Nat} {F Fu : Nat → Prop} {xs : List Slt} {x : Slt} {p : Option Addr} {q : Nat} (ho : sltsR.O w base F (.slice (some ⟨g, 0, none⟩) xs.length cap) xs) (hi : i < xs.length)
    (hu : sltR.O w base Fu (.agg #[.int .i64 x.con, .int .i64 x.sh, .int .i64 x.pr, .int .i64 x.lb, .int .i64 x.lv, .slice p x.cast.length q]) x) (hd : ∀ b, F b → ¬ Fu b) :
    ∃ F', sltsR.O ((((((w.setCell ⟨g, i * 6, none⟩ (.int .i64 x.con)).setCell ⟨g, i * 6 + 1, none⟩ (.int .i64 x.sh)).setCell ⟨g, i * 6 + 2, none⟩ (.int .i64 x.pr)).setCell ⟨g, i * 6 + 3, none⟩ (.int .i64 x.lb)).setCell ⟨g, i * 6 + 4, none⟩ (.int .i64 x.lv)).setCell ⟨g, i * 6 + 5, none⟩ (.slice p x.cast.length q)) base F' (.slice (some ⟨g, 0, none⟩) xs.length cap) (xs.set i x)
      ∧ Mod (fun b => b = g) w ((((((w.setCell ⟨g, i * 6, none⟩ (.int .i64 x.con)).setCell ⟨g, i * 6 + 1, none⟩ (.int .i64 x.sh)).setCell ⟨g, i * 6 + 2, none⟩ (.int .i64 x.pr)).setCell ⟨g, i * 6 + 3, none⟩ (.int .i64 x.lb)).setCell ⟨g, i * 6 + 4, none⟩ (.int .i64 x.lv)).setCell ⟨g, i * 6 + 5, none⟩ (.slice p x.cast.length q)) ∧ ∀ b, F' b → F b ∨ Fu b := by
  obtain ⟨cs, us, fs, hp, hF⟩ := ho
  have s1 := hp.row.stored (i * 6) (.int .i64 x.con)
  have s2 := s1.1.stored (i * 6 + 1) (.int .i64 x.sh)
  have s3 := s2.1.stored (i * 6 + 2) (.int .i64 x.pr)
  have s4 := s3.1.stored (i * 6 + 3) (.int .i64 x.lb)
  have s5 := s4.1.stored (i * 6 + 4) (.int .i64 x.lv)
  have s6 := s5.1.stored (i * 6 + 5) (.slice p x.cast.length q)
  have hm : Mod (fun b => b = g) w _ := (((((Mod.of_set w ⟨g, i * 6, none⟩ (.int .i64 x.con)).trans (Mod.of_set _ ⟨g, i * 6 + 1, none⟩ (.int .i64 x.sh))).trans (Mod.of_set _ ⟨g, i * 6 + 2, none⟩ (.int .i64 x.pr))).trans (Mod.of_set _ ⟨g, i * 6 + 3, none⟩ (.int .i64 x.lb))).trans (Mod.of_set _ ⟨g, i * 6 + 4, none⟩ (.int .i64 x.lv))).trans (Mod.of_set _ ⟨g, i * 6 + 5, none⟩ (.slice p x.cast.length q))
  have hcl : cs.length = xs.length * 6 := hp.row.1
  obtain ⟨F', h1, h2⟩ := NO.put hp hF hi hu rfl hd s6.1 (hm.mono (fun b h => by rw [h]; rfl)) (fun j hj hji o ho => by
    simp only [List.getElem?_set]
    rw [if_neg (by omega), if_neg (by omega), if_neg (by omega), if_neg (by omega), if_neg (by omega), if_neg (by omega)]) (fun o ho => by
    have ho' : o = 0 ∨ o = 1 ∨ o = 2 ∨ o = 3 ∨ o = 4 ∨ o = 5 := by omega
    simp only [List.getElem?_set, List.length_set]
    rcases ho' with rfl | rfl | rfl | rfl | rfl | rfl
    · rw [if_neg (by omega), if_neg (by omega), if_neg (by omega), if_neg (by omega), if_neg (by omega), if_pos (by omega), if_pos (by omega)]; rfl
    · rw [if_neg (by omega), if_neg (by omega), if_neg (by omega), if_neg (by omega), if_pos rfl, if_pos (by omega)]; rfl
    · rw [if_neg (by omega), if_neg (by omega), if_neg (by omega), if_pos rfl, if_pos (by omega)]; rfl
    · rw [if_neg (by omega), if_neg (by omega), if_pos rfl, if_pos (by omega)]; rfl
    · rw [if_neg (by omega), if_pos rfl, if_pos (by omega)]; rfl
    · rw [if_pos rfl, if_pos (by omega)]; rfl)
  exact ⟨F', h1, hm, h2⟩
theorem putS_found {xs : List Slt} {q : Slt} {i : Nat} (h1 : ∀ k, k < i → cmpS (xs.getD k default) q < 0) (hi : i < xs.length) (h : cmpS (xs.getD i default) q = 0) : putS xs q = xs.set i q := by
  have e := cmpS_eq.1 h
  refine putS_set (posS_eq (by omega) (fun k hk => by unfold aheadS; exact decide_eq_true (h1 k hk)) (fun _ => by unfold aheadS; exact decide_eq_false (by omega))) hi ?_
  rw [aheadS_no]
  omega
theorem putS_miss {xs : List Slt} {q : Slt} {i : Nat} (hi : i ≤ xs.length) (h1 : ∀ k, k < i → cmpS (xs.getD k default) q < 0) (h2 : ∀ k, i ≤ k → k < xs.length → 0 ≤ cmpS (xs.getD k default) q) (h : ¬ (i < xs.length ∧ cmpS (xs.getD i default) q = 0)) : putS xs q = xs.take i ++ [q] ++ xs.drop i := by
  refine putS_ins (posS_eq hi (fun k hk => by unfold aheadS; exact decide_eq_true (h1 k hk)) (fun h3 => by unfold aheadS; have := h2 i (Nat.le_refl _) h3; exact decide_eq_false (by omega))) (fun ⟨h3, h4⟩ => h ⟨h3, ?_⟩)
  have h5 := h2 i (Nat.le_refl _) h3
  have h6 := aheadS_no.1 h4
  by_cases e : (xs.getD i default).con = q.con ∧ (xs.getD i default).sh = q.sh
  · exact cmpS_eq.2 e
  · exfalso
    have h8 : cmpS (xs.getD i default) q < 0 := by rw [cmpS_lt]; omega
    omega
end Go.Proofs.Ytncmdeijimgchaa

/-
  Slots appended, cell by cell.
-/
set_option linter.unusedSimpArgs false
set_option linter.unusedVariables false
namespace Go.Proofs.Ytncmdeijimgchaa
open Go.RowKit
set_option linter.unusedSectionVars false
variable [DecidableEq Vot] [Inhabited Vot] [DecidableEq Slt] [Inhabited Slt] [DecidableEq Bal] [Inhabited Bal] [DecidableEq Ledg] [Inhabited Ledg] [DecidableEq Leg] [Inhabited Leg] [DecidableEq Acc] [Inhabited Acc] [DecidableEq SltR] [Inhabited SltR] [DecidableEq AccR] [Inhabited AccR] [DecidableEq AccsR] [Inhabited AccsR] [DecidableEq SltsR] [Inhabited SltsR]
attribute [local go_sem ↓] Go.wp_at_zero Go.wp_at_succ

theorem step_appX (Y : World) {ops : Array Oper} {o : Oper} {a : Act} {K : Act → World → Prop} {Q : Exit → Act → World → Prop} {E : Prop} (hgd : o.guard = none) (s x : Operand)
    (ho : o.op = .call { callee := .builtin .append, args := #[s, x], argTypes := #[55, 55] })
    (base : Nat) (v : Value) (F1 : Nat → Prop) (n : Nat) (cs : List Value) (hs : a.eval s = v) (u : Value) (m : Nat) (ds : List Value) (hx : a.eval x = u)
    (hown : Y.ownsRow base 91 6 v n cs ∧ F1 = (fun b => v.ownBlock = some b)) (hsrc : AppAny Y u m ds) (hl : ds.length = m * 6) (h1 : ∀ y ∈ ds, y.oneCell' = true) (hlen : n + m ≤ 1048576) (hbase : base ≤ Y.heap.size)
    (h : ∀ v' w', (w'.ownsRow base 91 6 v' (n + m) (cs ++ ds) ∧ (fun b => v'.ownBlock = some b) = (fun b => v'.ownBlock = some b)) → Mod F1 Y w' → (∀ b, v'.ownBlock = some b → F1 b ∨ (Y.heap.size ≤ b ∧ b < w'.heap.size)) → K (a.put o.dst v') w') :
    if Region.wanted o (yielded ops a.tmps) = true then Oper.wp Try.prog o a Y K Q else E := by
  obtain ⟨i0, hi, hz0, hz1, hz2⟩ := info_parts infoSlts
  obtain ⟨hown, hF1⟩ := hown
  rcases hsrc with ⟨c, rfl, hm, hd⟩ | ⟨ad, c, rfl, hc⟩
  · subst hm hd
    have hw : Region.wanted o (yielded ops a.tmps) = true := by simp [Region.wanted, hgd]
    rw [if_pos hw]
    have hr := run_append_none_any (P := Try.prog) Y base 55 o.type 91 i0 6 c Try.underlying55 hi v n cs hown
    unfold Oper.wp execOp
    simp only [ho, resolve, invoke, builtin, Sem.run_bind, Sem.run_pure, Result.andThen_ok, List.map_toArray, List.map_cons, List.map_nil, hs, hx, hr]
    refine h v Y ⟨?_, rfl⟩ (Mod.refl _ _) (fun b hb => .inl (by rw [hF1]; exact hb))
    rw [List.append_nil, Nat.add_zero]
    exact hown
  · refine step_append_at Y hgd s x 55 ho base 91 i0 _ 6 64 Try.underlying55 hi hz0 hz1 hz2 rfl (by decide) v n cs hs hown ad m c ds hx hl hc h1 (by unfold maxLen; omega) (by omega) hbase ?_
    intro v' w' h1 h2 h3
    refine h v' w' ⟨h1, rfl⟩ (by rw [hF1]; exact Mod.of_grown h2) (fun b hb => ?_)
    rcases h3 with h3 | h3
    · exact .inl (by rw [hF1]; exact h3 ▸ hb)
    · rw [h3] at hb
      simp only [Option.some.injEq] at hb
      have := (h1.lt b (by rw [h3, hb])).2
      exact .inr ⟨by omega, this⟩
theorem ite_wanted {c : Bool} {A B : Prop} (hc : c = true) (h : A) : if c = true then A else B := by rw [if_pos hc]; exact h
theorem wp_appX (Y : World) {o : Oper} {a : Act} {K : Act → World → Prop} {Q : Exit → Act → World → Prop} (hgd : o.guard = none) (s x : Operand)
    (ho : o.op = .call { callee := .builtin .append, args := #[s, x], argTypes := #[55, 55] })
    (base : Nat) (v : Value) (F1 : Nat → Prop) (n : Nat) (cs : List Value) (hs : a.eval s = v) (u : Value) (m : Nat) (ds : List Value) (hx : a.eval x = u)
    (hown : Y.ownsRow base 91 6 v n cs ∧ F1 = (fun b => v.ownBlock = some b)) (hsrc : AppAny Y u m ds) (hl : ds.length = m * 6) (h1 : ∀ y ∈ ds, y.oneCell' = true) (hlen : n + m ≤ 1048576) (hbase : base ≤ Y.heap.size)
    (h : ∀ v' w', (w'.ownsRow base 91 6 v' (n + m) (cs ++ ds) ∧ (fun b => v'.ownBlock = some b) = (fun b => v'.ownBlock = some b)) → Mod F1 Y w' → (∀ b, v'.ownBlock = some b → F1 b ∨ (Y.heap.size ≤ b ∧ b < w'.heap.size)) → K (a.put o.dst v') w') : Oper.wp Try.prog o a Y K Q := by
  have h0 := step_appX (E := True) (ops := #[]) (Q := Q) Y hgd s x ho base v F1 n cs hs u m ds hx hown hsrc hl h1 hlen hbase h
  rwa [if_pos (by simp [Region.wanted, hgd])] at h0
theorem sltsAny_piece {w : World} {base g cap n : Nat} {cs : List Value} (h : w.ownsRow base 91 6 (.slice (some ⟨g, 0, none⟩) n cap) n cs) (i m : Nat) (hi : i + m ≤ n) (c : Nat) :
    AppAny w (.slice (some ⟨g, i * 6, none⟩) m c) m ((cs.drop (i * 6)).take (m * 6)) := by
  refine .inr ⟨_, _, rfl, fun j x hj => ?_⟩
  have hcl : cs.length = n * 6 := h.1
  rw [List.getElem?_take] at hj
  split at hj
  · rw [List.getElem?_drop] at hj
    have := h.cellAt (i * 6 + j) (by omega)
    rw [hj] at this
    rw [addr_addS]
    exact this
  · cases hj
theorem sltsAny_none (W : World) (p : Option Addr) (c : Nat) : AppAny W (.slice p 0 c) 0 [] := by
  cases p with
  | none => exact .inl ⟨c, rfl, rfl, rfl⟩
  | some a => exact .inr ⟨a, c, rfl, fun j x hj => by simp at hj⟩
def insGX (B base a n : Nat) (P1 L P2 : List Value) : Nat → (Nat → Value) → (Nat → Prop) → World → Prop
  | 0, y, F, w => w.ownsRow base 91 6 (y 52) 0 [] ∧ F = (fun b => (y 52).ownBlock = some b)
  | 5, y, F, w => w.ownsRow base 91 6 (y 57) a P1 ∧ F = (fun b => (y 57).ownBlock = some b)
  | 7, y, F, w => w.ownsRow base 91 6 (y 59) 1 L ∧ F = (fun b => (y 59).ownBlock = some b)
  | 8, y, F, w => w.ownsRow base 91 6 (y 60) (a + 1) (P1 ++ L) ∧ F = (fun b => (y 60).ownBlock = some b)
  | 13, y, F, w => w.ownsRow base 91 6 (y 65) (n + 1) (P1 ++ L ++ P2) ∧ F = (fun b => (y 65).ownBlock = some b)
  | 14, y, F, w => y 66 = .pointer (some ⟨B, 0, none⟩)
  | _, _, _, _ => True
def insCX : Nat → List Nat
  | 5 => [0]
  | 8 => [5]
  | 13 => [8]
  | _ => []
def SetE (xs : List Slt) (s : Slt) (base : Nat) (Fs : Nat → Prop) (w : World) (e : Ending) (w' : World) : Prop :=
  ∃ p m q, e = .returned (.tuple #[.agg #[.slice p m q], .bool (decide ((putS xs s).length ≤ 60))]) ∧ Below w.heap.size w w' ∧ ((putS xs s).length ≤ 60 → m = (putS xs s).length ∧ ∃ F, accR.O w' base F (.agg #[.slice p m q]) ⟨putS xs s⟩ ∧ ∀ b, F b → Fs b ∨ w.heap.size ≤ b)
end Go.Proofs.Ytncmdeijimgchaa

