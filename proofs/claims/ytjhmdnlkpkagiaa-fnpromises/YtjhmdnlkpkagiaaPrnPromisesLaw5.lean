import Derived.Test.YtjhmdnlkpkagiaaPrnPromisesLaw4
import Derived.Test.YtjhmdnlkpkagiaaPrnPromisesLaw2
import Derived.Test.YtjhmdnlkpkagiaaPrnPromisesLaw1
import Derived.Deep.RegionHeld3
import Derived.Deep.DrawnRows

/-
  PromiseSlot, AcceptSlot in plain mathematics.
-/
namespace Go.Proofs.Ytjhmdnlkpkagiaa
open Go.RowKit
set_option linter.unusedSectionVars false
variable [DecidableEq Vot] [Inhabited Vot] [DecidableEq Slt] [Inhabited Slt] [DecidableEq SltR] [Inhabited SltR] [DecidableEq Bal] [Inhabited Bal] [DecidableEq Ledg] [Inhabited Ledg] [DecidableEq Leg] [Inhabited Leg]

def errS (c : Int) : SltR := ⟨c, 0, 0, ⟨0, 0, 0, 0, 0, []⟩⟩
def promD (d : Slt) (b : Int) : SltR := if sltFault d = 0 then (if inB b 0 1000 then (if b < d.pr then errS 8 else ⟨0, d.lb, d.lv, ⟨d.con, d.sh, b, d.lb, d.lv, d.cast⟩⟩) else errS 3) else errS (sltFault d)
def accC (d : Slt) (v : Vot) : Int := if v.bal < d.pr then 8 else if v.bal = d.lb ∧ ¬ v.val = d.lv then 7 else if v.bal = d.lb ∧ v.val = d.lv then 0 else if 60 ≤ d.cast.length then 2 else 0
def accS (d : Slt) (v : Vot) : Slt := if v.bal = d.lb ∧ v.val = d.lv then ⟨d.con, d.sh, v.bal, v.bal, v.val, d.cast⟩ else ⟨d.con, d.sh, v.bal, v.bal, v.val, d.cast ++ [v]⟩
def accD (d : Slt) (b v : Int) : SltR := if sltFault d = 0 then (if inB b 0 1000 && inB v 1 2 then (if accC d ⟨b, v⟩ = 0 then ⟨0, d.lb, d.lv, accS d ⟨b, v⟩⟩ else errS (accC d ⟨b, v⟩)) else errS 3) else errS (sltFault d)
theorem promD_fault {d : Slt} {b : Int} (h : ¬ sltFault d = 0) : promD d b = errS (sltFault d) := by unfold promD; rw [if_neg h]
theorem promD_range {d : Slt} {b : Int} (h : sltFault d = 0) (h1 : inB b 0 1000 = false) : promD d b = errS 3 := by unfold promD; rw [if_pos h, h1]; rfl
theorem promD_busy {d : Slt} {b : Int} (h : sltFault d = 0) (h1 : inB b 0 1000 = true) (h2 : b < d.pr) : promD d b = errS 8 := by unfold promD; rw [if_pos h, h1, if_pos rfl, if_pos h2]
theorem promD_ok {d : Slt} {b : Int} (h : sltFault d = 0) (h1 : inB b 0 1000 = true) (h2 : ¬ b < d.pr) : promD d b = ⟨0, d.lb, d.lv, ⟨d.con, d.sh, b, d.lb, d.lv, d.cast⟩⟩ := by unfold promD; rw [if_pos h, h1, if_pos rfl, if_neg h2]
theorem accD_fault {d : Slt} {b v : Int} (h : ¬ sltFault d = 0) : accD d b v = errS (sltFault d) := by unfold accD; rw [if_neg h]
theorem accD_range {d : Slt} {b v : Int} (h : sltFault d = 0) (h1 : (inB b 0 1000 && inB v 1 2) = false) : accD d b v = errS 3 := by unfold accD; rw [if_pos h, h1]; rfl
theorem accD_code {d : Slt} {b v : Int} (h : sltFault d = 0) (h1 : (inB b 0 1000 && inB v 1 2) = true) (h2 : ¬ accC d ⟨b, v⟩ = 0) : accD d b v = errS (accC d ⟨b, v⟩) := by unfold accD; rw [if_pos h, h1, if_pos rfl, if_neg h2]
theorem accD_ok {d : Slt} {b v : Int} (h : sltFault d = 0) (h1 : (inB b 0 1000 && inB v 1 2) = true) (h2 : accC d ⟨b, v⟩ = 0) : accD d b v = ⟨0, d.lb, d.lv, accS d ⟨b, v⟩⟩ := by unfold accD; rw [if_pos h, h1, if_pos rfl, if_pos h2]
theorem accC_busy {d : Slt} {v : Vot} (h : v.bal < d.pr) : accC d v = 8 := by unfold accC; rw [if_pos h]
theorem accC_taken {d : Slt} {v : Vot} (h : ¬ v.bal < d.pr) (h1 : v.bal = d.lb) (h2 : ¬ v.val = d.lv) : accC d v = 7 := by unfold accC; rw [if_neg h, if_pos ⟨h1, h2⟩]
theorem accC_same {d : Slt} {v : Vot} (h : ¬ v.bal < d.pr) (h1 : v.bal = d.lb) (h2 : v.val = d.lv) : accC d v = 0 := by unfold accC; rw [if_neg h, if_neg (fun q => q.2 h2), if_pos ⟨h1, h2⟩]
theorem accC_many {d : Slt} {v : Vot} (h : ¬ v.bal < d.pr) (h1 : ¬ v.bal = d.lb) (h2 : 60 ≤ d.cast.length) : accC d v = 2 := by unfold accC; rw [if_neg h, if_neg (fun q => h1 q.1), if_neg (fun q => h1 q.1), if_pos h2]
theorem accC_new {d : Slt} {v : Vot} (h : ¬ v.bal < d.pr) (h1 : ¬ v.bal = d.lb) (h2 : ¬ 60 ≤ d.cast.length) : accC d v = 0 := by unfold accC; rw [if_neg h, if_neg (fun q => h1 q.1), if_neg (fun q => h1 q.1), if_neg h2]
theorem accS_same {d : Slt} {v : Vot} (h1 : v.bal = d.lb) (h2 : v.val = d.lv) : accS d v = ⟨d.con, d.sh, v.bal, v.bal, v.val, d.cast⟩ := by unfold accS; rw [if_pos ⟨h1, h2⟩]
theorem accS_new {d : Slt} {v : Vot} (h1 : ¬ v.bal = d.lb) : accS d v = ⟨d.con, d.sh, v.bal, v.bal, v.val, d.cast ++ [v]⟩ := by unfold accS; rw [if_neg (fun q => h1 q.1)]
theorem promD_le (d : Slt) (b : Int) : wtSltR (promD d b) ≤ wtSlt d := by
  unfold promD errS
  split
  · split
    · split
      · simp [wtSltR, wtSlt, wtVots]
      · exact Nat.le_refl _
    · simp [wtSltR, wtSlt, wtVots]
  · simp [wtSltR, wtSlt, wtVots]
theorem accD_le (d : Slt) (b v : Int) : wtSltR (accD d b v) ≤ 61 := by
  unfold accD errS
  split
  · rename_i h
    have hl := (sltOk_of h).len
    split
    · split
      · unfold accS
        split <;> simp [wtSltR, wtSlt, wtVots] <;> omega
      · simp [wtSltR, wtSlt, wtVots]
    · simp [wtSltR, wtSlt, wtVots]
  · simp [wtSltR, wtSlt, wtVots]
end Go.Proofs.Ytjhmdnlkpkagiaa

/-
  Acceptor. (Written by program: nest.py.)
-/
namespace Go.Proofs.Ytjhmdnlkpkagiaa
open Go.RowKit
set_option linter.unusedSectionVars false
variable [DecidableEq Vot] [Inhabited Vot] [DecidableEq Slt] [Inhabited Slt]
attribute [local go_sem ↓] Go.wp_at_zero Go.wp_at_succ

structure Acc where
  slots : List Slt
variable [DecidableEq Acc] [Inhabited Acc]

end Go.Proofs.Ytjhmdnlkpkagiaa

/-
  AcceptorResult. (Written by program: nest.py.)
-/
namespace Go.Proofs.Ytjhmdnlkpkagiaa
open Go.RowKit
set_option linter.unusedSectionVars false
variable [DecidableEq Vot] [Inhabited Vot] [DecidableEq Slt] [Inhabited Slt] [DecidableEq Acc] [Inhabited Acc]
attribute [local go_sem ↓] Go.wp_at_zero Go.wp_at_succ

set_option linter.unusedSimpArgs false

structure AccR where
  code : Int
  ob : Int
  ov : Int
  acc : Acc
variable [DecidableEq AccR] [Inhabited AccR]

end Go.Proofs.Ytjhmdnlkpkagiaa

/-
  AcceptorsResult. (Written by program: nest.py.)
-/
namespace Go.Proofs.Ytjhmdnlkpkagiaa
open Go.RowKit
set_option linter.unusedSectionVars false
variable [DecidableEq Vot] [Inhabited Vot] [DecidableEq Slt] [Inhabited Slt] [DecidableEq Acc] [Inhabited Acc]
attribute [local go_sem ↓] Go.wp_at_zero Go.wp_at_succ

structure AccsR where
  code : Int
  value : Int
  accs : List Acc
variable [DecidableEq AccsR] [Inhabited AccsR]

end Go.Proofs.Ytjhmdnlkpkagiaa

