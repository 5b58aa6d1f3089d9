import Derived.Test.YtncmdeijimgchaaPrnOutcomesLaw28
import Derived.Test.YtncmdeijimgchaaPrnOutcomesLaw18
import Derived.PlainAid
import Derived.Laws.BitsAllLaws
import Derived.Test.YtncmdeijimgchaaPrnOutcomesLaw17
import Derived.Test.YtncmdeijimgchaaPrnOutcomesLaw1
import Derived.Deep.RegionHeld3
import Derived.Deep.DrawnRows
import Derived.Lib.ConvBytes
import Derived.Test.YtncmdeijimgchaaPrnOutcomesLaw19
import Derived.Deep.QuietTactic
import Derived.Laws.BytesArg

/-
  The specification's draws: a right contract.
-/
namespace Go.Proofs.Ytncmdeijimgchaa
open Go.RowKit
set_option linter.unusedSectionVars false
variable [DecidableEq Logg] [Inhabited Logg] [DecidableEq LoggR] [Inhabited LoggR] [DecidableEq BytesR] [Inhabited BytesR] [DecidableEq RecsR] [Inhabited RecsR] [DecidableEq Leg] [Inhabited Leg] [DecidableEq Cont] [Inhabited Cont]
set_option linter.unusedSimpArgs false
attribute [local go_sem ↓] Go.wp_at_zero Go.wp_at_succ

structure CtSt (w w' : World) (id : Int) (xs : List Leg) (p : Option Addr) (q : Nat) (F : Nat → Prop) : Prop where
  x0 : w'.cell? ⟨w.heap.size + 1, 0, none⟩ = some (.int .i64 id)
  x1 : w'.cell? ⟨w.heap.size + 1, 1, none⟩ = some (.slice p xs.length q)
  xf : ∀ o, w'.frozen? ⟨w.heap.size + 1, o, none⟩ = false
  r0 : w'.cell? ⟨w.heap.size, 0, none⟩ = some (.int .i64 0)
  r1 : w'.cell? ⟨w.heap.size, 1, none⟩ = some (.slice none 0 0)
  rf : ∀ o, w'.frozen? ⟨w.heap.size, o, none⟩ = false
  hO : legsR.O w' (w.heap.size + 2) F (.slice p xs.length q) xs
  hz : w.heap.size + 2 ≤ w'.heap.size
theorem CtSt.mod {w w' w'' : World} {id : Int} {xs : List Leg} {p : Option Addr} {q : Nat} {F G : Nat → Prop} (h : CtSt w w' id xs p q F) (hm : Mod G w' w'') (hG : ∀ b, G b → b < w.heap.size ∨ w'.heap.size ≤ b) : CtSt w w'' id xs p q F := by
  have hz := h.hz
  have n0 : ¬ G w.heap.size := fun e => by have := hG _ e; omega
  have n1 : ¬ G (w.heap.size + 1) := fun e => by have := hG _ e; omega
  exact ⟨hm.cell h.x0 n1, hm.cell h.x1 n1, fun o => by rw [hm.frozenAt (a := ⟨w.heap.size + 1, o, none⟩) (by dsimp only; omega) n1]; exact h.xf o, hm.cell h.r0 n0, hm.cell h.r1 n0, fun o => by rw [hm.frozenAt (a := ⟨w.heap.size, o, none⟩) (by dsimp only; omega) n0]; exact h.rf o, legsR.mod h.hO hm (fun b hb e => by have := legsR.rng h.hO b hb; have := hG b e; omega), Nat.le_trans hz hm.size⟩
theorem CtSt.below {w w' w'' : World} {id : Int} {xs : List Leg} {p : Option Addr} {q : Nat} {F : Nat → Prop} (h : CtSt w w' id xs p q F) (hb : Below w'.heap.size w' w'') : CtSt w w'' id xs p q F :=
  h.mod (G := fun _ => False) (Mod.of_below hb) (fun _ e => e.elim)
theorem CtSt.put {w w' : World} {id : Int} {xs ys : List Leg} {p p' : Option Addr} {q q' : Nat} {F F' : Nat → Prop} (h : CtSt w w' id xs p q F) (hO : legsR.O w' (w.heap.size + 2) F' (.slice p' ys.length q') ys) :
    CtSt w ((w'.setCell ⟨w.heap.size + 1, 0, none⟩ (.int .i64 id)).setCell ⟨w.heap.size + 1, 1, none⟩ (.slice p' ys.length q')) id ys p' q' F' := by
  refine ⟨?_, ?_, fun o => by simp [h.xf], ?_, ?_, fun o => by simp [h.rf], ?_, by simpa using h.hz⟩
  · rw [set_other (by simp)]; exact set_same h.x0
  · exact set_same (by rw [set_other (by simp)]; exact h.x1)
  · rw [set_other (by simp), set_other (by simp)]; exact h.r0
  · rw [set_other (by simp), set_other (by simp)]; exact h.r1
  · exact legsR.set (legsR.set hO _ (by simp)) _ (by simp)
end Go.Proofs.Ytncmdeijimgchaa

/-
  The specification's draws: a right contract has no fault.
-/
namespace Go.Proofs.Ytncmdeijimgchaa
open Go.RowKit
set_option linter.unusedSectionVars false
variable [DecidableEq Logg] [Inhabited Logg] [DecidableEq LoggR] [Inhabited LoggR] [DecidableEq BytesR] [Inhabited BytesR] [DecidableEq RecsR] [Inhabited RecsR] [DecidableEq Leg] [Inhabited Leg] [DecidableEq Cont] [Inhabited Cont]
set_option linter.unusedSimpArgs false
attribute [local go_sem ↓] Go.wp_at_zero Go.wp_at_succ

set_option maxHeartbeats 8000000 in
theorem l1Right_any (B : Nat) (w : World) (bs : Nat) (a : Option Addr) (k cap t : Nat) (id : Int) (h : Src B w bs a k cap t) (ht : t ≤ 1000) (hid : contractFault id [⟨0, 0, 0, -5⟩, ⟨1, 0, 0, 5⟩] = 0) :
    Calls Try.prog 41 #[.pointer (some ⟨bs, 0, none⟩), .int .i64 id] w fun e w' => ∃ v F xs t', e = .returned (.agg #[.int .i64 id, v]) ∧ legsR.O w' w.heap.size F v xs ∧ contractFault id xs = 0 ∧ 1 ≤ xs.length ∧ xs.length ≤ 4 ∧ Src B w' bs a k cap t' ∧ t' ≤ t + 20 ∧ Mod (fun b => b = bs) w w' := by
  have hlt := h.lt
  have HID : Hid (contractFault id [⟨0, 0, 0, -5⟩, ⟨1, 0, 0, 5⟩] = 0) := hid
  clear hid
  go_enter Try.func41, Try.ntmps41
  go_wp2_with fail
  refine (l1Next_any B _ bs a k cap t 2 (h.below (by (repeat (first | exact Below.refl _ _ | assumption | refine Below.drew ?_ | refine balloc ?_ _ | refine bset ?_ (by simp; omega) _ | refine bset ?_ (by simp) _ | refine bstep ?_ (by assumption))))) (by omega) (by omega) (by omega)).mono ?_
  rintro e w1 ⟨n1, rfl, rn, hs1, hm1⟩
  have hM1 : Mod (fun b => b = bs) w w1 := (Mod.of_below (by (repeat (first | exact Below.refl _ _ | assumption | refine Below.drew ?_ | refine balloc ?_ _ | refine bset ?_ (by simp; omega) _ | refine bset ?_ (by simp) _ | refine bstep ?_ (by assumption))))).trans hm1
  have st0 : CtSt w ((w.alloc (.cells #[.int .i64 0, .slice none 0 0] 26)).alloc (.cells #[.int .i64 id, .slice none 0 0] 26)) id [] none 0 none_ :=
    ⟨by simp [go_sem], by simp [go_sem], fun o => by simp [go_sem], by simp [go_sem], by simp [go_sem], fun o => by simp [go_sem], ⟨World.ownsRow_nil _ _ _ _, by funext b; simp [none_, Value.ownBlock]⟩, by simp⟩
  have st1 := st0.mod hm1 (fun b hb => by omega)
  have y0 : IntKind.i64.wrap (1 + (n1 : Int)) = ((1 + n1 : Nat) : Int) := by rw [wrapI _ (by omega) (by omega)]; omega
  clear st0 hm1 h
  go_wp2
  go_loopw [6] (fun i w' => ∃ (m t' : Nat) (xs : List Leg) (p : Option Addr) (q : Nat) (F : Nat → Prop), i = .int .i64 m ∧ Hid (xs = [] ∨ contractFault id xs = 0) ∧ xs.length + 2 * m ≤ 4 ∧ t' + 6 * m ≤ t + 13 ∧ CtSt w w' id xs p q F ∧ Src B w' bs a k cap t' ∧ Mod (fun b => b = bs) w w') (fun i _ => (intOf i).toNat)
  case atStart =>
    exact ⟨1 + n1, t + 1, [], _, _, _, by go_num, Or.inl rfl, by simp; omega, by omega, st1, hs1, hM1⟩
  case round =>
    obtain ⟨m, t', xs, p, q, F, rfl, HXF, hxm, htm, st, hs, hM⟩ := hrel
    by_cases hpos : 0 < m
    · have hq : (0 : Int) < (m : Int) := by omega
      go_wp2_with fail
      refine (l1Next_any B wr bs a k cap (t') 3 hs (by omega) (by omega) (by omega)).mono ?_
      rintro e w2 ⟨g1, rfl, hg1, hs_w2, hm⟩
      have st_w2 := st.mod hm (fun b hb => by omega)
      have hM_w2 := hM.trans hm
      have z_w2 := hm.size
      try simp only [World.size_alloc] at z_w2
      clear st hM hs hm
      go_wp2_with fail
      refine (l1Next_any B w2 bs a k cap (t' + 1) 40 hs_w2 (by omega) (by omega) (by omega)).mono ?_
      rintro e w3 ⟨g2, rfl, hg2, hs_w3, hm⟩
      have st_w3 := st_w2.mod hm (fun b hb => by omega)
      have hM_w3 := hM_w2.trans hm
      have z_w3 := hm.size
      try simp only [World.size_alloc] at z_w3
      clear st_w2 hM_w2 hs_w2 hm
      have u1 : IntKind.i64.wrap (1 + (g2 : Int)) = 1 + g2 := wrapI _ (by omega) (by omega)
      go_wp2_with fail
      refine (l1Next_any B w3 bs a k cap (t' + 1 + 1) 3 hs_w3 (by omega) (by omega) (by omega)).mono ?_
      rintro e w4 ⟨g3, rfl, hg3, hs_w4, hm⟩
      have st_w4 := st_w3.mod hm (fun b hb => by omega)
      have hM_w4 := hM_w3.trans hm
      have z_w4 := hm.size
      try simp only [World.size_alloc] at z_w4
      clear st_w3 hM_w3 hs_w3 hm
      go_wp2_with fail
      refine (l1Next_any B w4 bs a k cap (t' + 1 + 1 + 1) 4 hs_w4 (by omega) (by omega) (by omega)).mono ?_
      rintro e w5 ⟨g4, rfl, hg4, hs_w5, hm⟩
      have st_w5 := st_w4.mod hm (fun b hb => by omega)
      have hM_w5 := hM_w4.trans hm
      have z_w5 := hm.size
      try simp only [World.size_alloc] at z_w5
      clear st_w4 hM_w4 hs_w4 hm
      have hz5 := st_w5.hz
      have u2 : IntKind.i64.wrap (-(1 + (g2 : Int))) = -(1 + g2) := wrapI _ (by omega) (by omega)
      go_wp2_with fail
      refine (l1Next_any B _ bs a k cap (t' + 1 + 1 + 1 + 1) 3 (hs_w5.below (by (repeat (first | exact Below.refl _ _ | assumption | refine Below.drew ?_ | refine balloc ?_ _ | refine bset ?_ (by simp; omega) _ | refine bset ?_ (by simp) _ | refine bstep ?_ (by assumption))))) (by omega) (by omega) (by omega)).mono ?_
      rintro e w6 ⟨g5, rfl, hg5, hs_w6, hm⟩
      have st_w6 := (st_w5.below (by (repeat (first | exact Below.refl _ _ | assumption | refine Below.drew ?_ | refine balloc ?_ _ | refine bset ?_ (by simp; omega) _ | refine bset ?_ (by simp) _ | refine bstep ?_ (by assumption))))).mod hm (fun b hb => by omega)
      have hM_w6 := (hM_w5.transB (by (repeat (first | exact Below.refl _ _ | assumption | refine Below.drew ?_ | refine balloc ?_ _ | refine bset ?_ (by simp; omega) _ | refine bset ?_ (by simp) _ | refine bstep ?_ (by assumption))))).trans hm
      have z_w6 := hm.size
      try simp only [World.size_alloc] at z_w6
      have A0 : w6.cell? ⟨w5.heap.size, 0, none⟩ = some (.int .i64 (g3 : Int)) := hm.cell (by simp [go_sem]) (fun e => by dsimp only at e; have := st_w5.hz; omega)
      have A1 : w6.cell? ⟨w5.heap.size, 1, none⟩ = some (.int .i64 (g4 : Int)) := hm.cell (by simp [go_sem]) (fun e => by dsimp only at e; have := st_w5.hz; omega)
      have A2 : w6.cell? ⟨w5.heap.size, 2, none⟩ = some (.int .i64 (g1 : Int)) := hm.cell (by simp [go_sem]) (fun e => by dsimp only at e; have := st_w5.hz; omega)
      have A3 : w6.cell? ⟨w5.heap.size, 3, none⟩ = some (.int .i64 (-(1 + (g2 : Int)))) := hm.cell (by simp [go_sem]) (fun e => by dsimp only at e; have := st_w5.hz; omega)
      clear st_w5 hM_w5 hs_w5 hm
      go_wp2_with fail
      refine (l1Next_any B w6 bs a k cap (t' + 1 + 1 + 1 + 1 + 1) 4 hs_w6 (by omega) (by omega) (by omega)).mono ?_
      rintro e w7 ⟨g6, rfl, hg6, hs_w7, hm⟩
      have st_w7 := st_w6.mod hm (fun b hb => by omega)
      have hM_w7 := hM_w6.trans hm
      have z_w7 := hm.size
      try simp only [World.size_alloc] at z_w7
      replace A0 := hm.cell A0 (fun e => by dsimp only at e; have := st_w6.hz; have := z_w6; have := hz5; omega)
      replace A1 := hm.cell A1 (fun e => by dsimp only at e; have := st_w6.hz; have := z_w6; have := hz5; omega)
      replace A2 := hm.cell A2 (fun e => by dsimp only at e; have := st_w6.hz; have := z_w6; have := hz5; omega)
      replace A3 := hm.cell A3 (fun e => by dsimp only at e; have := st_w6.hz; have := z_w6; have := hz5; omega)
      clear st_w6 hM_w6 hs_w6 hm
      have hz7 := st_w7.hz
      go_wp2
      refine wp_region_noPanic ?_
      obtain ⟨la, hla⟩ : ∃ la : Leg, la = ⟨g3, g4, g1, -(1 + (g2 : Int))⟩ := ⟨_, rfl⟩
      obtain ⟨lb, hlb⟩ : ∃ lb : Leg, lb = ⟨g5, g6, g1, 1 + (g2 : Int)⟩ := ⟨_, rfl⟩
      have B0 : (w7.alloc (.cells #[.int .i64 (g5 : Int), .int .i64 (g6 : Int), .int .i64 (g1 : Int), .int .i64 (1 + (g2 : Int))] 138)).cell? ⟨w7.heap.size, 0, none⟩ = some (.int .i64 lb.sh) := by rw [hlb]; simp [go_sem]
      have B1 : (w7.alloc (.cells #[.int .i64 (g5 : Int), .int .i64 (g6 : Int), .int .i64 (g1 : Int), .int .i64 (1 + (g2 : Int))] 138)).cell? ⟨w7.heap.size, 1, none⟩ = some (.int .i64 lb.ac) := by rw [hlb]; simp [go_sem]
      have B2 : (w7.alloc (.cells #[.int .i64 (g5 : Int), .int .i64 (g6 : Int), .int .i64 (g1 : Int), .int .i64 (1 + (g2 : Int))] 138)).cell? ⟨w7.heap.size, 2, none⟩ = some (.int .i64 lb.ast) := by rw [hlb]; simp [go_sem]
      have B3 : (w7.alloc (.cells #[.int .i64 (g5 : Int), .int .i64 (g6 : Int), .int .i64 (g1 : Int), .int .i64 (1 + (g2 : Int))] 138)).cell? ⟨w7.heap.size, 3, none⟩ = some (.int .i64 lb.am) := by rw [hlb]; simp [go_sem]
      have A0' : (w7.alloc (.cells #[.int .i64 (g5 : Int), .int .i64 (g6 : Int), .int .i64 (g1 : Int), .int .i64 (1 + (g2 : Int))] 138)).cell? ⟨w5.heap.size, 0, none⟩ = some (.int .i64 la.sh) := by rw [hla]; exact cell_keep (by (repeat (first | exact Below.refl _ _ | assumption | refine Below.drew ?_ | refine balloc ?_ _ | refine bset ?_ (by simp; omega) _ | refine bset ?_ (by simp) _ | refine bstep ?_ (by assumption)))) A0
      have A1' : (w7.alloc (.cells #[.int .i64 (g5 : Int), .int .i64 (g6 : Int), .int .i64 (g1 : Int), .int .i64 (1 + (g2 : Int))] 138)).cell? ⟨w5.heap.size, 1, none⟩ = some (.int .i64 la.ac) := by rw [hla]; exact cell_keep (by (repeat (first | exact Below.refl _ _ | assumption | refine Below.drew ?_ | refine balloc ?_ _ | refine bset ?_ (by simp; omega) _ | refine bset ?_ (by simp) _ | refine bstep ?_ (by assumption)))) A1
      have A2' : (w7.alloc (.cells #[.int .i64 (g5 : Int), .int .i64 (g6 : Int), .int .i64 (g1 : Int), .int .i64 (1 + (g2 : Int))] 138)).cell? ⟨w5.heap.size, 2, none⟩ = some (.int .i64 la.ast) := by rw [hla]; exact cell_keep (by (repeat (first | exact Below.refl _ _ | assumption | refine Below.drew ?_ | refine balloc ?_ _ | refine bset ?_ (by simp; omega) _ | refine bset ?_ (by simp) _ | refine bstep ?_ (by assumption)))) A2
      have A3' : (w7.alloc (.cells #[.int .i64 (g5 : Int), .int .i64 (g6 : Int), .int .i64 (g1 : Int), .int .i64 (1 + (g2 : Int))] 138)).cell? ⟨w5.heap.size, 3, none⟩ = some (.int .i64 la.am) := by rw [hla]; exact cell_keep (by (repeat (first | exact Below.refl _ _ | assumption | refine Below.drew ?_ | refine balloc ?_ _ | refine bset ?_ (by simp; omega) _ | refine bset ?_ (by simp) _ | refine bstep ?_ (by assumption)))) A3
      have st8 := st_w7.below (w'' := w7.alloc (.cells #[.int .i64 (g5 : Int), .int .i64 (g6 : Int), .int .i64 (g1 : Int), .int .i64 (1 + (g2 : Int))] 138)) (by (repeat (first | exact Below.refl _ _ | assumption | refine Below.drew ?_ | refine balloc ?_ _ | refine bset ?_ (by simp; omega) _ | refine bset ?_ (by simp) _ | refine bstep ?_ (by assumption))))
      have hM8 := hM_w7.transB (w2 := w7.alloc (.cells #[.int .i64 (g5 : Int), .int .i64 (g6 : Int), .int .i64 (g1 : Int), .int .i64 (1 + (g2 : Int))] 138)) (by (repeat (first | exact Below.refl _ _ | assumption | refine Below.drew ?_ | refine balloc ?_ _ | refine bset ?_ (by simp; omega) _ | refine bset ?_ (by simp) _ | refine bstep ?_ (by assumption))))
      have hs8 := hs_w7.below (w' := w7.alloc (.cells #[.int .i64 (g5 : Int), .int .i64 (g6 : Int), .int .i64 (g1 : Int), .int .i64 (1 + (g2 : Int))] 138)) (by (repeat (first | exact Below.refl _ _ | assumption | refine Below.drew ?_ | refine balloc ?_ _ | refine bset ?_ (by simp; omega) _ | refine bset ?_ (by simp) _ | refine bstep ?_ (by assumption))))
      have z8 : w7.heap.size < (w7.alloc (.cells #[.int .i64 (g5 : Int), .int .i64 (g6 : Int), .int .i64 (g1 : Int), .int .i64 (1 + (g2 : Int))] 138)).heap.size := by simp
      generalize w7.alloc (.cells #[.int .i64 (g5 : Int), .int .i64 (g6 : Int), .int .i64 (g1 : Int), .int .i64 (1 + (g2 : Int))] 138) = W8 at *
      clear st_w7 hM_w7 hs_w7 A0 A1 A2 A3 hla hlb
      refine region_upto (fun w' => Below W8.heap.size W8 w' ∧ w'.cell? ⟨w.heap.size + 1, 1, none⟩ = some (.slice p xs.length q) ∧ (w'.cell? ⟨w5.heap.size, 0, none⟩ = some (.int .i64 la.sh) ∧ w'.cell? ⟨w5.heap.size, 1, none⟩ = some (.int .i64 la.ac) ∧ w'.cell? ⟨w5.heap.size, 2, none⟩ = some (.int .i64 la.ast) ∧ w'.cell? ⟨w5.heap.size, 3, none⟩ = some (.int .i64 la.am)) ∧ (w'.cell? ⟨w7.heap.size, 0, none⟩ = some (.int .i64 lb.sh) ∧ w'.cell? ⟨w7.heap.size, 1, none⟩ = some (.int .i64 lb.ac) ∧ w'.cell? ⟨w7.heap.size, 2, none⟩ = some (.int .i64 lb.ast) ∧ w'.cell? ⟨w7.heap.size, 3, none⟩ = some (.int .i64 lb.am))) 11 (by kernel_rfl) ⟨Below.drew (Below.refl _ _), cell_keep (by (repeat (first | exact Below.refl _ _ | assumption | refine Below.drew ?_ | refine balloc ?_ _ | refine bset ?_ (by simp; omega) _ | refine bset ?_ (by simp) _ | refine bstep ?_ (by assumption)))) st8.x1, ⟨cell_keep (by (repeat (first | exact Below.refl _ _ | assumption | refine Below.drew ?_ | refine balloc ?_ _ | refine bset ?_ (by simp; omega) _ | refine bset ?_ (by simp) _ | refine bstep ?_ (by assumption)))) A0', cell_keep (by (repeat (first | exact Below.refl _ _ | assumption | refine Below.drew ?_ | refine balloc ?_ _ | refine bset ?_ (by simp; omega) _ | refine bset ?_ (by simp) _ | refine bstep ?_ (by assumption)))) A1', cell_keep (by (repeat (first | exact Below.refl _ _ | assumption | refine Below.drew ?_ | refine balloc ?_ _ | refine bset ?_ (by simp; omega) _ | refine bset ?_ (by simp) _ | refine bstep ?_ (by assumption)))) A2', cell_keep (by (repeat (first | exact Below.refl _ _ | assumption | refine Below.drew ?_ | refine balloc ?_ _ | refine bset ?_ (by simp; omega) _ | refine bset ?_ (by simp) _ | refine bstep ?_ (by assumption)))) A3'⟩, ⟨cell_keep (by (repeat (first | exact Below.refl _ _ | assumption | refine Below.drew ?_ | refine balloc ?_ _ | refine bset ?_ (by simp; omega) _ | refine bset ?_ (by simp) _ | refine bstep ?_ (by assumption)))) B0, cell_keep (by (repeat (first | exact Below.refl _ _ | assumption | refine Below.drew ?_ | refine balloc ?_ _ | refine bset ?_ (by simp; omega) _ | refine bset ?_ (by simp) _ | refine bstep ?_ (by assumption)))) B1, cell_keep (by (repeat (first | exact Below.refl _ _ | assumption | refine Below.drew ?_ | refine balloc ?_ _ | refine bset ?_ (by simp; omega) _ | refine bset ?_ (by simp) _ | refine bstep ?_ (by assumption)))) B2, cell_keep (by (repeat (first | exact Below.refl _ _ | assumption | refine Below.drew ?_ | refine balloc ?_ _ | refine bset ?_ (by simp; omega) _ | refine bset ?_ (by simp) _ | refine bstep ?_ (by assumption)))) B3⟩⟩ (fun hS => ?_)
      refine upto_take (i := 0) (v := ?_) rfl (by kernel_rfl) (by kernel_rfl) (by kernel_rfl) (by kernel_rfl) (fun _ _ _ h => h) (by rfl) hS ?_ ?_
      rotate_left
      · intro wS hSw
        try dsimp only at hSw
        first | (go_simp; done) | (go_simp; with_reducible rfl)
      try simp only [Act.put, List.getElem_toArray, List.getElem_cons_zero, List.getElem_cons_succ, List.setIfInBounds_toArray, List.set_cons_zero, List.set_cons_succ]
      refine upto_take (i := 2) (v := ?_) rfl (by kernel_rfl) (by kernel_rfl) (by kernel_rfl) (by kernel_rfl) (fun _ _ _ h => h) (by rfl) hS ?_ ?_
      rotate_left
      · intro wS hSw
        try dsimp only at hSw
        first | (go_simp; done) | (go_simp; with_reducible rfl)
      try simp only [Act.put, List.getElem_toArray, List.getElem_cons_zero, List.getElem_cons_succ, List.setIfInBounds_toArray, List.set_cons_zero, List.set_cons_succ]
      refine upto_take (i := 3) (v := ?_) rfl (by kernel_rfl) (by kernel_rfl) (by kernel_rfl) (by kernel_rfl) (fun _ _ _ h => h) (by rfl) hS ?_ ?_
      rotate_left
      · intro wS hSw
        try dsimp only at hSw
        first | (go_simp; done) | (go_simp; with_reducible rfl)
      try simp only [Act.put, List.getElem_toArray, List.getElem_cons_zero, List.getElem_cons_succ, List.setIfInBounds_toArray, List.set_cons_zero, List.set_cons_succ]
      refine upto_take (i := 5) (v := ?_) rfl (by kernel_rfl) (by kernel_rfl) (by kernel_rfl) (by kernel_rfl) (fun _ _ _ h => h) (by rfl) hS ?_ ?_
      rotate_left
      · intro wS hSw
        try dsimp only at hSw
        first | (go_simp; done) | (go_simp; with_reducible rfl)
      try simp only [Act.put, List.getElem_toArray, List.getElem_cons_zero, List.getElem_cons_succ, List.setIfInBounds_toArray, List.set_cons_zero, List.set_cons_succ]
      refine upto_take (i := 6) (v := ?_) rfl (by kernel_rfl) (by kernel_rfl) (by kernel_rfl) (by kernel_rfl) (fun _ _ _ h => h) (by rfl) hS ?_ ?_
      rotate_left
      · intro wS hSw
        try dsimp only at hSw
        first | (go_simp; done) | (go_simp; with_reducible rfl)
      try simp only [Act.put, List.getElem_toArray, List.getElem_cons_zero, List.getElem_cons_succ, List.setIfInBounds_toArray, List.set_cons_zero, List.set_cons_succ]
      have hW0 : Below W8.heap.size W8 W8.drew := Below.drew (Below.refl _ _)
      have hzW : W8.heap.size = W8.drew.heap.size := rfl
      generalize W8.drew = W0 at *
      have hsr : AppAny W0 (.slice p xs.length q) xs.length (legsC xs) := appAny_owns (legsR.keep st8.hO hW0).1
      have hsv := fun (W : World) (hW : Below W0.heap.size W0 W) => appAny_owns (legsR.keep (legsR.keep st8.hO hW0) hW).1
      refine upto_cons' [(1, 42), (4, 45), (7, 48), (8, 49), (9, 50), (10, 11)] drawC (drawG W0.heap.size id xs la lb) (by kernel_rfl) hS ?_ ?_ ?_ ?_
      · intro F' W W' h hm hF
        obtain ⟨h1, h2, ⟨h3, h4, h5, h6⟩, ⟨h7, h8, h9, h10⟩⟩ := h
        exact ⟨hm.below h1 h1.size (fun b hb => by have := hF b hb; omega), hm.cell h2 (fun e => by have := hF _ e; dsimp only at this; omega), ⟨hm.cell h3 (fun e => by have := hF _ e; dsimp only at this; omega), hm.cell h4 (fun e => by have := hF _ e; dsimp only at this; omega), hm.cell h5 (fun e => by have := hF _ e; dsimp only at this; omega), hm.cell h6 (fun e => by have := hF _ e; dsimp only at this; omega)⟩, ⟨hm.cell h7 (fun e => by have := hF _ e; dsimp only at this; omega), hm.cell h8 (fun e => by have := hF _ e; dsimp only at this; omega), hm.cell h9 (fun e => by have := hF _ e; dsimp only at this; omega), hm.cell h10 (fun e => by have := hF _ e; dsimp only at this; omega)⟩⟩
      · intro pp hp
        simp only [List.mem_cons, List.not_mem_nil, or_false] at hp
        rcases hp with rfl | rfl | rfl | rfl | rfl | rfl
        · intro y y' F F' W W' h hi hm hap hF e _
          simp only [drawG] at h ⊢
          rw [e]
          exact legsR.mod h hm (fun b h1 h2 => hap b h2 h1)
        · intro y y' F F' W W' h hi hm hap hF e _
          simp only [drawG] at h ⊢
          rw [e]
          exact legsR.mod h hm (fun b h1 h2 => hap b h2 h1)
        · intro y y' F F' W W' h hi hm hap hF e _
          simp only [drawG] at h ⊢
          rw [e]
          exact legsR.mod h hm (fun b h1 h2 => hap b h2 h1)
        · intro y y' F F' W W' h hi hm hap hF e _
          simp only [drawG] at h ⊢
          rw [e]
          exact legsR.mod h hm (fun b h1 h2 => hap b h2 h1)
        · intro y y' F F' W W' h hi hm hap hF e he
          have e0 := he (8, 49) (by simp) (by kernel_rfl)
          simp only [drawG] at h ⊢
          rw [e, e0]
          exact h
        · intro y y' F F' W W' h hi hm hap hF e _
          simp only [drawG] at h ⊢
          rw [e]
          obtain ⟨g, h1, h2, h3, h4, h5⟩ := h
          have hng : ¬ F' g := fun c => hap g c ((h2 g).2 rfl)
          exact ⟨g, h1, h2, hm.cell h3 hng, hm.cell h4 hng, fun o => by rw [hm.frozenAt (a := ⟨g, o, none⟩) (hi g ((h2 g).2 rfl)).2 hng]; exact h5 o⟩
      · intro pp hp
        simp only [List.mem_cons, List.not_mem_nil, or_false] at hp
        rcases hp with rfl | rfl | rfl | rfl | rfl | rfl
        all_goals
          refine ⟨_, rfl, rfl, ?_⟩
          intro y W Φ hSW hBW hd K hK
        · clear hd
          refine ⟨?_⟩
          simp only [over, Act.put, List.getElem_toArray, List.getElem_cons_zero, List.getElem_cons_succ, List.map_cons, List.map_nil, List.foldl_cons, List.foldl_nil, List.setIfInBounds_toArray, List.set_cons_zero, List.set_cons_succ] at hK ⊢
          go_simp
          refine hK _ _ (fun b => b = W.heap.size) (Mod.of_below (by (repeat (first | exact Below.refl _ _ | assumption | refine Below.drew ?_ | refine balloc ?_ _ | refine bset ?_ (by simp; omega) _ | refine bset ?_ (by simp) _ | refine bstep ?_ (by assumption))))) (fun b hb => .inr (by simp; omega)) ?_
          simp only [drawG, updV]
          refine ⟨World.ownsRow_lit (base := W0.heap.size) (e := 138) (size := 4) W #[] 0 hBW.size (by unfold maxLen; omega) rfl, ?_⟩
          funext b
          simp [Value.ownBlock, eq_comm]
        · have g0 := (hd (1, 42) (by simp) (by kernel_rfl) (.inl (by simp [drawC]))).2
          clear hd
          simp only [drawG] at g0
          refine ⟨?_⟩
          refine step_appLegs W rfl (.tmp 42) (.tmp 44) rfl W0.heap.size (y 42) (Φ 1) [] rfl (.slice p xs.length q) xs rfl g0 (hsv W hBW) (by simp; omega) hBW.size ?_
          intro v' w' hO hm hl
          refine hK _ _ (fun b => v'.ownBlock = some b) (hm.mono (fun b hb => ⟨1, by simp [drawC], hb⟩)) (fun b hb => (hl b hb).imp (fun h => ⟨1, by simp [drawC], h⟩) (fun h => h)) ?_
          simp only [drawG, updV]
          simpa using hO
        · clear hd
          obtain ⟨h1, h2, ⟨h3, h4, h5, h6⟩, ⟨h7, h8, h9, h10⟩⟩ := hSW
          refine ⟨?_⟩
          simp only [over, Act.put, List.getElem_toArray, List.getElem_cons_zero, List.getElem_cons_succ, List.map_cons, List.map_nil, List.foldl_cons, List.foldl_nil, List.setIfInBounds_toArray, List.set_cons_zero, List.set_cons_succ] at hK ⊢
          go_simp
          refine hK _ _ (fun b => b = W.heap.size) (Mod.of_below (by (repeat (first | exact Below.refl _ _ | assumption | refine Below.drew ?_ | refine balloc ?_ _ | refine bset ?_ (by simp; omega) _ | refine bset ?_ (by simp) _ | refine bstep ?_ (by assumption))))) (fun b hb => .inr (by simp; omega)) ?_
          simp only [drawG, updV]
          refine ⟨World.ownsRow_lit (base := W0.heap.size) (e := 138) (size := 4) W #[.int .i64 la.sh, .int .i64 la.ac, .int .i64 la.ast, .int .i64 la.am, .int .i64 lb.sh, .int .i64 lb.ac, .int .i64 lb.ast, .int .i64 lb.am] 2 hBW.size (by unfold maxLen; omega) rfl, ?_⟩
          funext b
          simp [Value.ownBlock, eq_comm]
        · have g0 := (hd (4, 45) (by simp) (by kernel_rfl) (.inl (by simp [drawC]))).2
          have g1 := (hd (7, 48) (by simp) (by kernel_rfl) (.inr (by simp [drawC]))).2
          clear hd
          simp only [drawG] at g0 g1
          refine ⟨?_⟩
          refine step_appLegs W rfl (.tmp 45) (.tmp 48) rfl W0.heap.size (y 45) (Φ 4) xs rfl (y 48) [la, lb] rfl g0 (appAny_owns g1.1) (by simp; omega) hBW.size ?_
          intro v' w' hO hm hl
          refine hK _ _ (fun b => v'.ownBlock = some b) (hm.mono (fun b hb => ⟨4, by simp [drawC], hb⟩)) (fun b hb => (hl b hb).imp (fun h => ⟨4, by simp [drawC], h⟩) (fun h => h)) ?_
          simp only [drawG, updV]
          simpa using hO
        · have g0 := (hd (8, 49) (by simp) (by kernel_rfl) (.inr (by simp [drawC]))).2
          clear hd
          simp only [drawG] at g0
          obtain ⟨a9, c9, e9'⟩ := legs_form (legsR.ofO g0)
          have e9 : y 49 = .slice a9 (xs.length + 2) c9 := by simpa using e9'
          clear e9' g0
          refine ⟨?_⟩
          simp only [over, Act.put, List.getElem_toArray, List.getElem_cons_zero, List.getElem_cons_succ, List.map_cons, List.map_nil, List.foldl_cons, List.foldl_nil, List.setIfInBounds_toArray, List.set_cons_zero, List.set_cons_succ] at hK ⊢
          simp only [e9] at hK ⊢
          go_simp
          refine hK _ _ (fun _ => False) (Mod.refl _ _) (fun b hb => hb.elim) ?_
          simp only [drawG, updV]
          simp [e9]
        · clear hd
          refine ⟨?_⟩
          simp only [over, Act.put, List.getElem_toArray, List.getElem_cons_zero, List.getElem_cons_succ, List.map_cons, List.map_nil, List.foldl_cons, List.foldl_nil, List.setIfInBounds_toArray, List.set_cons_zero, List.set_cons_succ] at hK ⊢
          go_simp
          refine hK _ _ (fun b => b = W.heap.size) (Mod.of_below (by (repeat (first | exact Below.refl _ _ | assumption | refine Below.drew ?_ | refine balloc ?_ _ | refine bset ?_ (by simp; omega) _ | refine bset ?_ (by simp) _ | refine bstep ?_ (by assumption))))) (fun b hb => .inr (by simp; omega)) ?_
          simp only [drawG, updV]
          exact ⟨W.heap.size, rfl, fun b => Iff.rfl, by simp [go_sem], by simp [go_sem], fun o => by simp [go_sem]⟩
      · refine ⟨_, rfl, ?_⟩
        intro y W Φ hSW hBW hd hap K hK
        have g8 := hd (8, 49) (by simp) (by simp [drawC])
        have g9 := (hd (9, 50) (by simp) (by simp [drawC])).2
        have g10 := hd (10, 11) (by simp) (by simp [drawC])
        have ap := hap (8, 49) (by simp) (10, 11) (by simp) (by simp) (by simp [drawC]) (by simp [drawC])
        clear hd hap
        simp only [drawG] at g8 g9 g10
        obtain ⟨b8, o8⟩ := g8
        obtain ⟨b10, gB, e11, f10, k0, k1, kf⟩ := g10
        have hnB : ¬ Φ 8 gB := fun c => ap gB c ((f10 gB).2 rfl)
        have hBB := b10 gB ((f10 gB).2 rfl)
        obtain ⟨a9, c9, e9'⟩ := legs_form (legsR.ofO o8)
        have e9 : y 49 = .slice a9 (xs.length + 2) c9 := by simpa using e9'
        rw [e9] at o8 g9
        have hW89 : Below W8.heap.size W8 W := bstep hW0 hBW
        have hs9 := hs8.below hW89
        clear e9' ap b8 b10 f10 hS hSW
        refine ⟨?_⟩
        simp only [over, Act.put, List.getElem_toArray, List.getElem_cons_zero, List.getElem_cons_succ, List.map_cons, List.map_nil, List.foldl_cons, List.foldl_nil, List.setIfInBounds_toArray, List.set_cons_zero, List.set_cons_succ]
        simp only [g9, e11]
        clear g9 e11 e9
        go_simp
        refine hK _ _ ?_
        clear hK K
        refine NoPanic.normal ?_
        have hm5 : Mod (fun b => b = gB) W ((W.setCell ⟨gB, 0, none⟩ (.int .i64 id)).setCell ⟨gB, 1, none⟩ (.slice a9 (xs.length + 2) c9)) := (Mod.of_set W ⟨gB, 0, none⟩ _).trans (Mod.of_set _ ⟨gB, 1, none⟩ _)
        have t0 : ((W.setCell ⟨gB, 0, none⟩ (.int .i64 id)).setCell ⟨gB, 1, none⟩ (.slice a9 (xs.length + 2) c9)).cell? ⟨gB, 0, none⟩ = some (.int .i64 id) := by rw [set_other (by simp)]; exact set_same k0
        have t1 : ((W.setCell ⟨gB, 0, none⟩ (.int .i64 id)).setCell ⟨gB, 1, none⟩ (.slice a9 (xs.length + 2) c9)).cell? ⟨gB, 1, none⟩ = some (.slice a9 (xs.length + 2) c9) := set_same (by rw [set_other (by simp)]; exact k1)
        generalize (W.setCell ⟨gB, 0, none⟩ (.int .i64 id)).setCell ⟨gB, 1, none⟩ (.slice a9 (xs.length + 2) c9) = W5 at *
        have hm85 : Mod (fun b => b = gB) W8 W5 := (Mod.of_below hW89).trans hm5
        have st9 := st8.mod hm85 (fun b hb => .inr (by omega))
        have hM9 := hM8.trans2 hm85 (fun b hb hl => by have := hM8.size; omega)
        have hs10 := hs9.mod hm5 (fun b hb => by have := hs8.lt; omega)
        have o10 : legsR.O W5 (w.heap.size + 2) (Φ 8) (.slice a9 (xs.length + 2) c9) (xs ++ [la, lb]) := legsR.base (legsR.mod o8 hm5 (fun b h1 h2 => hnB (h2 ▸ h1))) (by have := st8.hz; omega)
        have hgB : gB < W5.heap.size := Nat.lt_of_lt_of_le hBB.2 hm5.size
        have hgB2 : w.heap.size + 2 ≤ gB := by have := st8.hz; omega
        clear st8 hM8 hs8 hs9 hm5 hm85 o8 k0 k1 kf hBB hBW hW89 hW0 hnB hsr hsv
        go_wp2_with fail
        refine (specFault_any id _ (xs ++ [la, lb]) W5 (legsR.ofO o10)).mono ?_
        rintro e w9 ⟨rfl, hb9⟩
        have st10 := st9.below hb9
        have hM10 := hM9.transB hb9
        have hs11 := hs10.below hb9
        have o11 := legsR.keep o10 hb9
        have q0 := cell_keep hb9 t0
        have q1 := cell_keep hb9 t1
        clear st9 hM9 hs10 o10 t0 t1 hb9
        have x0 := st10.x0
        have x1 := st10.x1
        have xf := st10.xf
        obtain ⟨cf, hcfe⟩ : ∃ cf, cf = contractFault id (xs ++ [la, lb]) := ⟨_, rfl⟩
        rw [← hcfe]
        have HCF : Hid (cf = contractFault id (xs ++ [la, lb])) := hcfe
        clear hcfe
        by_cases hcf : cf = 0
        · subst hcf
          have o12 : legsR.O w9 (w.heap.size + 2) (Φ 8) (.slice a9 (xs ++ [la, lb]).length c9) (xs ++ [la, lb]) := by simpa using o11
          have st11 := st10.put o12
          have hm6 : Mod (fun b => b = w.heap.size + 1) w9 ((w9.setCell ⟨w.heap.size + 1, 0, none⟩ (.int .i64 id)).setCell ⟨w.heap.size + 1, 1, none⟩ (.slice a9 (xs.length + 2) c9)) := (Mod.of_set w9 ⟨w.heap.size + 1, 0, none⟩ _).trans (Mod.of_set _ ⟨w.heap.size + 1, 1, none⟩ _)
          have hM11 := hM10.trans2 hm6 (fun b hb hl => by omega)
          have hs12 := hs11.mod hm6 (fun b hb => by omega)
          have HST : Hid (CtSt w ((w9.setCell ⟨w.heap.size + 1, 0, none⟩ (.int .i64 id)).setCell ⟨w.heap.size + 1, 1, none⟩ (.slice a9 (xs.length + 2) c9)) id (xs ++ [la, lb]) a9 c9 (Φ 8)) := by unfold Hid; simpa using st11
          clear st10 st11 hM10 hs11 o11 o12 hm6
          go_wp2
          exact ⟨⟨m - 1, t' + 1 + 1 + 1 + 1 + 1 + 1, xs ++ [la, lb], _, _, _, by go_num, Or.inr HCF.out.symm, by simp; omega, by omega, HST.out, hs12, hM11⟩, by simp [intOf]; omega⟩
        · have hcf2 : (cf == 0) = false := by rw [beq_eq_false_iff_ne]; exact hcf
          go_wp2
          exact ⟨⟨m - 1, t' + 1 + 1 + 1 + 1 + 1 + 1, xs, _, _, _, by go_num, HXF, by omega, by omega, st10, hs11, hM10⟩, by simp [intOf]; omega⟩
    · have hq : ¬ (0 : Int) < (m : Int) := by omega
      have x0 := st.x0
      have x1 := st.x1
      have xf := st.xf
      have r0 := st.r0
      have r1 := st.r1
      have rf := st.rf
      have hz := st.hz
      by_cases h0 : xs.length = 0
      · have hxe : ((xs.length : Int) == 0) = true := by simp [h0]
        have z1 : w.heap.size < wr.heap.size := by omega
        have z2 : w.heap.size + 1 < wr.heap.size := by omega
        have hm6 : Mod (fun b => b = w.heap.size ∨ b = w.heap.size + 1) wr (((wr.setCell ⟨w.heap.size + 1, 1, none⟩ (.slice (some ⟨wr.heap.size, 0, none⟩) 2 2)).setCell ⟨w.heap.size, 0, none⟩ (.int .i64 id)).setCell ⟨w.heap.size, 1, none⟩ (.slice (some ⟨wr.heap.size, 0, none⟩) 2 2)) := (((Mod.of_set wr ⟨w.heap.size + 1, 1, none⟩ _).mono (fun b hb => .inr hb)).trans ((Mod.of_set _ ⟨w.heap.size, 0, none⟩ _).mono (fun b hb => .inl hb))).trans ((Mod.of_set _ ⟨w.heap.size, 1, none⟩ _).mono (fun b hb => .inl hb))
        have hM2 : Mod (fun b => b = bs) w ((((wr.setCell ⟨w.heap.size + 1, 1, none⟩ (.slice (some ⟨wr.heap.size, 0, none⟩) 2 2)).setCell ⟨w.heap.size, 0, none⟩ (.int .i64 id)).setCell ⟨w.heap.size, 1, none⟩ (.slice (some ⟨wr.heap.size, 0, none⟩) 2 2)).alloc (.cells #[.int .i64 0, .int .i64 0, .int .i64 0, .int .i64 (-5), .int .i64 1, .int .i64 0, .int .i64 0, .int .i64 5] 138)) := (hM.trans2 hm6 (fun b hb hl => by omega)).alloc _
        have hs2 : Src B ((((wr.setCell ⟨w.heap.size + 1, 1, none⟩ (.slice (some ⟨wr.heap.size, 0, none⟩) 2 2)).setCell ⟨w.heap.size, 0, none⟩ (.int .i64 id)).setCell ⟨w.heap.size, 1, none⟩ (.slice (some ⟨wr.heap.size, 0, none⟩) 2 2)).alloc (.cells #[.int .i64 0, .int .i64 0, .int .i64 0, .int .i64 (-5), .int .i64 1, .int .i64 0, .int .i64 0, .int .i64 5] 138)) bs a k cap t' := (hs.mod hm6 (fun b hb => by omega)).below (by (repeat (first | exact Below.refl _ _ | assumption | refine Below.drew ?_ | refine balloc ?_ _ | refine bset ?_ (by simp; omega) _ | refine bset ?_ (by simp) _ | refine bstep ?_ (by assumption))))
        have hO2 : legsR.O ((((wr.setCell ⟨w.heap.size + 1, 1, none⟩ (.slice (some ⟨wr.heap.size, 0, none⟩) 2 2)).setCell ⟨w.heap.size, 0, none⟩ (.int .i64 id)).setCell ⟨w.heap.size, 1, none⟩ (.slice (some ⟨wr.heap.size, 0, none⟩) 2 2)).alloc (.cells #[.int .i64 0, .int .i64 0, .int .i64 0, .int .i64 (-5), .int .i64 1, .int .i64 0, .int .i64 0, .int .i64 5] 138)) w.heap.size (fun b => b = wr.heap.size) (.slice (some ⟨wr.heap.size, 0, none⟩) 2 2) [⟨0, 0, 0, -5⟩, ⟨1, 0, 0, 5⟩] := by
          have hh := World.ownsRow_lit (base := w.heap.size) (e := 138) (size := 4) (((wr.setCell ⟨w.heap.size + 1, 1, none⟩ (.slice (some ⟨wr.heap.size, 0, none⟩) 2 2)).setCell ⟨w.heap.size, 0, none⟩ (.int .i64 id)).setCell ⟨w.heap.size, 1, none⟩ (.slice (some ⟨wr.heap.size, 0, none⟩) 2 2)) #[.int .i64 0, .int .i64 0, .int .i64 0, .int .i64 (-5), .int .i64 1, .int .i64 0, .int .i64 0, .int .i64 5] 2 (by simp; omega) (by unfold maxLen; omega) rfl
          refine ⟨by have h := hh; simp at h; exact h, ?_⟩
          funext b
          simp [Value.ownBlock, eq_comm]
        clear hm6 st hs hM
        go_wp2
        refine bodyPost_ret (v := .agg #[.int .i64 id, (.slice (some ⟨wr.heap.size, 0, none⟩) 2 2)]) ?_ rfl ?_
        · simp [results, Try.results41, go_sem, r0, r1, x1, z1, z2]
        · first
            | exact ⟨_, _, [⟨0, 0, 0, -5⟩, ⟨1, 0, 0, 5⟩], t', rfl, hO2, HID.out, by simp, by simp, hs2, by omega, hM2⟩
            | exact ⟨_, rfl, _, [⟨0, 0, 0, -5⟩, ⟨1, 0, 0, 5⟩], hO2, HID.out, by simp, by simp, t', hs2, by omega, hM2⟩
      · have hxe : ((xs.length : Int) == 0) = false := by rw [beq_eq_false_iff_ne]; omega
        have hxf : contractFault id xs = 0 := by
          rcases HXF.out with e | e
          · exact absurd (by rw [e]; rfl) h0
          · exact e
        have HXF2 : Hid (contractFault id xs = 0) := hxf
        clear hxf
        have hm6 : Mod (fun b => b = w.heap.size) wr ((wr.setCell ⟨w.heap.size, 0, none⟩ (.int .i64 id)).setCell ⟨w.heap.size, 1, none⟩ (.slice p xs.length q)) := (Mod.of_set wr ⟨w.heap.size, 0, none⟩ _).trans (Mod.of_set _ ⟨w.heap.size, 1, none⟩ _)
        have hM2 := hM.trans2 hm6 (fun b hb hl => by omega)
        have hs2 := hs.mod hm6 (fun b hb => by omega)
        have hO2 := legsR.base (base' := w.heap.size) (legsR.set (legsR.set st.hO (.int .i64 id) (p := ⟨w.heap.size, 0, none⟩) (by simp)) (.slice p xs.length q) (p := ⟨w.heap.size, 1, none⟩) (by simp)) (by omega)
        clear hm6
        go_wp2
        refine bodyPost_ret (v := .agg #[.int .i64 id, .slice p xs.length q]) ?_ rfl ?_
        · simp [results, Try.results41, go_sem, r0, r1]
        · first
            | exact ⟨_, F, xs, t', rfl, hO2, HXF2.out, by omega, by omega, hs2, by omega, hM2⟩
            | exact ⟨_, rfl, F, xs, hO2, HXF2.out, by omega, by omega, t', hs2, by omega, hM2⟩
end Go.Proofs.Ytncmdeijimgchaa

/-
  A right contract, drawn.
-/
set_option linter.unusedSimpArgs false
set_option linter.unusedVariables false
namespace Go.Proofs.Ytncmdeijimgchaa
open Go.RowKit
set_option linter.unusedSectionVars false
variable [DecidableEq Logg] [Inhabited Logg] [DecidableEq LoggR] [Inhabited LoggR] [DecidableEq BytesR] [Inhabited BytesR] [DecidableEq RecsR] [Inhabited RecsR] [DecidableEq Leg] [Inhabited Leg] [DecidableEq Cont] [Inhabited Cont]
attribute [local go_sem ↓] Go.wp_at_zero Go.wp_at_succ

theorem cf_nine : contractFault 9 [⟨0, 0, 0, -5⟩, ⟨1, 0, 0, 5⟩] = 0 := by decide
set_option maxRecDepth 20000 in
set_option maxHeartbeats 8000000 in
theorem drawRight_any (x : Value) (cs : List Byte) (w : World) (hx : BytesV w x cs) (hn : cs.length ≤ 1048576) :
    Calls Try.prog 9 #[x, .int .i64 9] w fun e w' => ∃ v F xs, e = .returned (.agg #[.int .i64 9, v]) ∧ legsR.O w' w.heap.size F v xs ∧ contractFault 9 xs = 0 ∧ 1 ≤ xs.length ∧ xs.length ≤ 4 ∧ Below w.heap.size w w' := by
  have hX := hx
  obtain ⟨ax, cx, rfl, _⟩ := hx
  have e9 : IntKind.u8.wrap 9 = 9 := by decide
  have hs0 : ([toB 9] : List Byte).length + cs.length ≤ 1073741824 := by simp; omega
  have own0 : ((w.alloc (.cells #[.int .i64 0, .slice none 0 0] 26)).alloc (.cells #[.int .u8 9] 5)).ownsRow (w.heap.size + 1) 5 1 (.slice (some ⟨w.heap.size + 1, 0, none⟩) 1 1) [toB 9].length (bytesC [toB 9]) := by
    have h := one_owns (W := w.alloc (.cells #[.int .i64 0, .slice none 0 0] 26)) (base := w.heap.size + 1) (toB 9) (q := 9) (by rw [toB_val]; decide) (by simp)
    rw [World.size_alloc] at h
    exact h
  have any0 : AppAny ((w.alloc (.cells #[.int .i64 0, .slice none 0 0] 26)).alloc (.cells #[.int .u8 9] 5)) (.slice ax cs.length cx) cs.length (bytesC cs) := appAny_bytes (BytesV_below hX (by (repeat (first | exact Below.refl _ _ | assumption | refine Below.drew ?_ | refine balloc ?_ _ | refine bset ?_ (by simp; omega) _ | refine bset ?_ (by simp) _ | refine bstep ?_ (by assumption)))))
  go_enter Try.func9, Try.ntmps9
  go_wp2_with (at_builtin; refine wpList_appB _ rfl _ _ rfl (w.heap.size + 1) (.slice (some ⟨w.heap.size + 1, 0, none⟩) 1 1) [toB 9] rfl (.slice ax cs.length cx) cs rfl own0 any0 hs0 (by simp) ?_)
  intro v1 w1 o1 hg1 hB1
  have hb0 : Below (w.heap.size + 1) (w.alloc (.cells #[.int .i64 0, .slice none 0 0] 26)) ((w.alloc (.cells #[.int .i64 0, .slice none 0 0] 26)).alloc (.cells #[.int .u8 9] 5)) := by
    have h := balloc (Below.refl (w.alloc (.cells #[.int .i64 0, .slice none 0 0] 26)).heap.size _) (.cells #[.int .u8 9] 5)
    rw [World.size_alloc] at h
    exact h
  have hb1 : Below (w.heap.size + 1) (w.alloc (.cells #[.int .i64 0, .slice none 0 0] 26)) w1 := hB1 _ hb0
  have hl : (toB 9 :: cs).length ≤ 2097152 := by simp; omega
  have o2 : w1.ownsRow (w.heap.size + 1) 5 1 v1 (toB 9 :: cs).length (bytesC (toB 9 :: cs)) := by simpa using o1
  clear o1
  obtain ⟨ds, hd⟩ : ∃ ds, ds = toB 9 :: cs := ⟨_, rfl⟩
  rw [← hd] at o2 hl
  clear hd hb0 own0 any0
  have hv1 := BytesV_of_owns o2
  obtain ⟨p1, q1, rfl, _⟩ := id hv1
  have HV1 : Hid (BytesV w1 (.slice p1 ds.length q1) ds) := hv1
  clear o2 hg1 hB1 hv1 hX hs0
  have hz1 := hb1.size
  simp at hz1
  have hbw1 : Below (w.alloc (.cells #[.int .i64 0, .slice none 0 0] 26)).heap.size (w.alloc (.cells #[.int .i64 0, .slice none 0 0] 26)) w1 := by simpa using hb1
  have hB1 : Below w.heap.size w w1 := bstep (balloc (Below.refl _ _) _) hbw1
  have r0 : w1.cell? ⟨w.heap.size, 0, none⟩ = some (.int .i64 0) := cell_keep hbw1 (by simp [go_sem])
  have r1 : w1.cell? ⟨w.heap.size, 1, none⟩ = some (.slice none 0 0) := cell_keep hbw1 (by simp [go_sem])
  have rf : ∀ o, w1.frozen? ⟨w.heap.size, o, none⟩ = false := fun o => by rw [(bcell hbw1).2 _ _ (by simp)]; simp [go_sem]
  clear hb1 hbw1
  go_wp2_with fail
  refine (l1Source_any _ ds w1 HV1.out hl).mono ?_
  rintro e w2 ⟨a, cap, rfl, hs2, hb2⟩
  have hB2 : Below w.heap.size w w2 := bstep hB1 hb2
  have hz2 := hb2.size
  replace r0 := cell_keep hb2 r0
  replace r1 := cell_keep hb2 r1
  replace rf : ∀ o, w2.frozen? ⟨w.heap.size, o, none⟩ = false := fun o => by rw [(bcell hb2).2 _ _ (by omega)]; exact rf o
  clear HV1 hb2 hB1
  go_wp2_with fail
  refine (l1Right_any w1.heap.size w2 w1.heap.size a ds.length cap 0 9 hs2 (by omega) cf_nine).mono ?_
  rintro e w3 ⟨v, F, xs, t', rfl, ho, hcf, h1, h4, _, _, hm⟩
  have hne : ¬ w.heap.size = w1.heap.size := by omega
  replace r0 := hm.cell r0 hne
  replace r1 := hm.cell r1 hne
  replace rf : ∀ o, w3.frozen? ⟨w.heap.size, o, none⟩ = false := fun o => (World.frozen?_of_block (hm.block w.heap.size (by omega) hne)).trans (rf o)
  have hB3 : Below w.heap.size w w3 := hm.below hB2 hB2.size (fun b hb => by omega)
  have hz3 := hm.size
  have HO : Hid (legsR.O w3 w2.heap.size F v xs) := ho
  have HC : Hid (contractFault 9 xs = 0) := hcf
  obtain ⟨pv, qv, rfl⟩ := owns_form ho.1
  have hO2 := legsR.base (base' := w.heap.size) (legsR.set (legsR.set HO.out (.int .i64 9) (p := ⟨w.heap.size, 0, none⟩) (by simp; omega)) (.slice pv xs.length qv) (p := ⟨w.heap.size, 1, none⟩) (by simp; omega)) (by omega)
  have HO2 : Hid (legsR.O ((w3.setCell ⟨w.heap.size, 0, none⟩ (.int .i64 9)).setCell ⟨w.heap.size, 1, none⟩ (.slice pv xs.length qv)) w.heap.size F (.slice pv xs.length qv) xs) := hO2
  clear ho hm hcf hs2 HO hO2
  go_wp2
  refine bodyPost_ret (v := .agg #[.int .i64 9, .slice pv xs.length qv]) (by simp [results, Try.results9, go_sem, r0, r1, rf]) rfl ⟨_, F, xs, rfl, HO2.out, HC.out, h1, h4, ?_⟩
  exact bset (bset hB3 (by simp) _) (by simp) _
end Go.Proofs.Ytncmdeijimgchaa

/-
  Bytes as text; one row of a row of rows; whether the code is too long.
-/
namespace Go.Proofs.Ytncmdeijimgchaa
open Go.RowKit
set_option linter.unusedSectionVars false
variable [DecidableEq BytesR] [Inhabited BytesR] [DecidableEq RecsR] [Inhabited RecsR]
set_option linter.unusedSimpArgs false
attribute [local go_sem ↓] Go.wp_at_zero Go.wp_at_succ

set_option maxHeartbeats 400000 in
theorem lwBig_any (x : Value) (xs : List Byte) (w : World) (hx : bytesR.V w x xs) :
    Calls Try.prog 8 #[x] w fun e w' => e = .returned (.bool (decide (1048576 < xs.length))) ∧ w' = w := by
  obtain ⟨a, c, rfl, h1, h2, _⟩ := hx
  unfold maxLen at h2
  generalize xs.length = n at *
  go_enter Try.func8, Try.ntmps8
  by_cases h : 1048576 < n
  · have h' : (1048576 : Int) < (n : Int) := by omega
    go_wp2
    go_ret
    exact ⟨by simp [h], rfl⟩
  · have h' : ¬ (1048576 : Int) < (n : Int) := by omega
    go_wp2
    go_ret
    exact ⟨by simp [h], rfl⟩
end Go.Proofs.Ytncmdeijimgchaa

