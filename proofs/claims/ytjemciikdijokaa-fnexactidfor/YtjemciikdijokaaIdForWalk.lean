import Derived.Test.YtjemciikdijokaaPrnIdForLaw6
import Derived.Test.YtjemciikdijokaaPrnIdForLaw1
import Derived.Deep.RegionHeld3
import Derived.Deep.DrawnRows

/-
  Proved: laws.FnExactIdFor answers true at every argument, and its arguments read behind the call as they read before. No condition. (The walk.)
-/
namespace Go.Proofs.Ytjemciikdijokaa.idForLaw
open Go.RowKit
set_option linter.unusedSectionVars false
variable [DecidableEq Leg] [Inhabited Leg] [DecidableEq Ses] [Inhabited Ses] [DecidableEq Cont] [Inhabited Cont] [DecidableEq Bal] [Inhabited Bal] [DecidableEq Mrk] [Inhabited Mrk] [DecidableEq Shd] [Inhabited Shd] [DecidableEq Vot] [Inhabited Vot] [DecidableEq Slt] [Inhabited Slt] [DecidableEq Acc] [Inhabited Acc] [DecidableEq Trr] [Inhabited Trr] [DecidableEq Hrd] [Inhabited Hrd] [DecidableEq Ldr] [Inhabited Ldr] [DecidableEq Msg] [Inhabited Msg] [DecidableEq Clu] [Inhabited Clu] [DecidableEq SesR] [Inhabited SesR] [DecidableEq Ledg] [Inhabited Ledg]
attribute [local go_sem ↓] Go.wp_at_zero Go.wp_at_succ

set_option maxHeartbeats 2000000 in
theorem walk (k0 : Int) (k1 : Int) (w : World) :
    Calls Try.prog 5 #[.int .i64 k0, .int .i64 k1] w fun e w' => e = .returned (.bool true) ∧ Below w.heap.size w w' := by
  have HS : Hid (∀ W, Calls Try.prog 17 #[.int .i64 k0, .int .i64 k1] W fun e w' => e = .returned (.agg #[.int .i64 (idC k0 k1), .int .i64 (idV k0 k1)]) ∧ Below W.heap.size W w') := fun W => specIdFor_any k0 k1 W
  have HI : Hid (∀ W, Calls Try.prog 18 #[.int .i64 k0, .int .i64 k1] W fun e w' => e = .returned (.agg #[.int .i64 (idC k0 k1), .int .i64 (idV k0 k1)]) ∧ Below W.heap.size W w') := fun W => implIdFor_any k0 k1 W
  generalize idC k0 k1 = C at *
  generalize idV k0 k1 = V at *
  go_enter Try.func5, Try.ntmps5
  go_wp2_with fail
  refine (HS.out _).mono ?_
  rintro e w1 ⟨rfl, hb1⟩
  have hB1 : Below w.heap.size w w1 := by (repeat (first | exact Below.refl _ _ | assumption | refine Below.drew ?_ | refine balloc ?_ _ | refine bset ?_ (by simp; omega) _ | refine bset ?_ (by simp) _ | refine bstep ?_ (by assumption)))
  go_wp2_with fail
  refine (HI.out _).mono ?_
  rintro e w2 ⟨rfl, hb2⟩
  have p0 : w2.cell? ⟨w1.heap.size, 0, none⟩ = some (.int .i64 C) := cell_keep hb2 (by simp [go_sem])
  have p1 : w2.cell? ⟨w1.heap.size, 1, none⟩ = some (.int .i64 V) := cell_keep hb2 (by simp [go_sem])
  have hz := World.block_lt_of_cell? _ _ p0
  dsimp only at hz
  have hB2 : Below w.heap.size w w2 := bstep (by (repeat (first | exact Below.refl _ _ | assumption | refine Below.drew ?_ | refine balloc ?_ _ | refine bset ?_ (by simp; omega) _ | refine bset ?_ (by simp) _ | refine bstep ?_ (by assumption)))) hb2
  clear hb1 hb2 hB1 HS HI
  go_wp2_with fail
  refine (eqIntResult_any _ _ _ _ _).mono ?_
  rintro e w3 ⟨rfl, hb3⟩
  have hB3 : Below w.heap.size w w3 := bstep (by (repeat (first | exact Below.refl _ _ | assumption | refine Below.drew ?_ | refine balloc ?_ _ | refine bset ?_ (by simp; omega) _ | refine bset ?_ (by simp) _ | refine bstep ?_ (by assumption)))) hb3
  simp only [and_self, decide_true]
  clear hb3 hB2
  go_wp2
  go_ret
  exact ⟨rfl, hB3⟩
end Go.Proofs.Ytjemciikdijokaa.idForLaw

