import Derived.Test.YtndghenlapbaaaaGreatDoorPrnShardTextLaw22
import Derived.Test.YtndghenlapbaaaaGreatDoorPrnShardTextLaw8
import Derived.Test.YtndghenlapbaaaaGreatDoorPrnShardTextLaw18
import Derived.BigQuiet
import Derived.Deep.QuietTactic
import Derived.Deep.RegionHeld3
import Derived.Test.YtndghenlapbaaaaGreatDoorPrnShardTextLaw10
import Derived.Test.YtndghenlapbaaaaGreatDoorShD
import Derived.Test.YtndghenlapbaaaaGreatDoorPrnShardTextLaw13

/-
  The door of ShardFault: what is left when it panics with a refusal, or returns.
-/
set_option linter.unusedSimpArgs false
set_option linter.unusedVariables false
namespace Go.Proofs.YtndghenlapbaaaaGreatDoor
open Go.RowKit
set_option linter.unusedSectionVars false
variable [DecidableEq Rw] [Inhabited Rw] [DecidableEq Bal] [Inhabited Bal] [DecidableEq Ledg] [Inhabited Ledg] [DecidableEq Leg] [Inhabited Leg] [DecidableEq Cont] [Inhabited Cont] [DecidableEq LedgR] [Inhabited LedgR] [DecidableEq OutcR] [Inhabited OutcR] [DecidableEq Mrk] [Inhabited Mrk] [DecidableEq Shd] [Inhabited Shd] [DecidableEq ShdR] [Inhabited ShdR]
attribute [local go_sem ↓] Go.wp_at_zero Go.wp_at_succ

def PanicAs (D : List Deferred) (k : Nat) (p : Value) (R : List PanicEntry → World → Prop) (Q : Exit → Act → World → Prop) : Exit → Act → World → Prop
  | .panic c, a, w => a.defers = D ∧ a.tmps[k]? = some p ∧ R c w
  | e, a, w => Q e a w
theorem PanicAs.put {D : List Deferred} {k : Nat} {p : Value} {R : List PanicEntry → World → Prop} {Q : Exit → Act → World → Prop} {dst : Option Nat} {v : Value} {c : List PanicEntry} {a : Act} {w : World} (hk : dst ≠ some k) (h : PanicAs D k p R Q (.panic c) (a.put dst v) w) : PanicAs D k p R Q (.panic c) a w := by
  cases dst with
  | none => exact h
  | some j =>
    obtain ⟨h1, h2, h3⟩ := h
    have hj : j ≠ k := fun e => hk (by rw [e])
    refine ⟨h1, ?_, h3⟩
    simp only [Act.put] at h2
    rw [Array.getElem?_setIfInBounds_ne hj] at h2
    exact h2
theorem PanicAs.normal {D : List Deferred} {k : Nat} {p : Value} {R : List PanicEntry → World → Prop} {Q : Exit → Act → World → Prop} {a : Act} {w : World} (h : Q .normal a w) : PanicAs D k p R Q .normal a w := h
theorem wp_region_panicAs {P : Program} {id : Nat} {ops : Array Oper} {b : Bool} {Q : Exit → Act → World → Prop} {a : Act} {w : World} (D : List Deferred) (k : Nat) (p : Value) (R : List PanicEntry → World → Prop)
    (hi : ∀ c a w, a.defers = D → a.tmps[k]? = some p → R c w → Q (.panic c) a w) (h : (Code.region id ops b).wp P (PanicAs D k p R Q) a w) : (Code.region id ops b).wp P Q a w :=
  Code.wp_mono (fun e a w h => by
    cases e with
    | panic c => exact hi c a w h.1 h.2.1 h.2.2
    | _ => exact h) h
theorem doorP (w W : World) (tm : Array Value) (B : Nat) (Z c x : Int) (hz : Z = c) (ht : tm[2]? = some (.pointer (some ⟨B, 0, none⟩))) (hB : w.heap.size ≤ B) (hc : W.cell? ⟨B, 0, none⟩ = some (.int .i64 x)) (hf : W.frozen? ⟨B, 0, none⟩ = false) (hb : Below w.heap.size w W) :
    Leaves Tryz.prog Tryz.f20 tm (fun e w' => e = .returned (.int .i64 Z) ∧ Below w.heap.size w w') [{ target := .fn (.func 37) #[.pointer (some ⟨B, 0, none⟩)], args := #[] }] (.panicking [{ v := refV c, recovered := false }]) W := by
  refine leaves_cons (f := 37) (args := #[.pointer (some ⟨B, 0, none⟩)]) (by simp) (by simp [go_sem]) ?_
  refine (catchSF_panicking ⟨B, 0, none⟩ x c [] W hc hf).mono ?_
  rintro e u' w2 ⟨rfl, rfl, w1, hb1, rfl⟩
  have hc1 : w1.cell? ⟨B, 0, none⟩ = some (.int .i64 x) := cell_keep hb1 hc
  have hf1 : w1.frozen? ⟨B, 0, none⟩ = false := by rw [hb1.frozen (p := ⟨B, 0, none⟩) (World.block_lt_of_cell? W _ hc)]; exact hf
  have hB1 : Below w.heap.size w w1 := bstep hb hb1
  subst hz
  refine ⟨.int .i64 Z, ?_, rfl, ?_⟩
  · simp [results, Tryz.results20, go_sem, ht, hc1, hf1]
  · (repeat (first | refine bset ?_ (by simp; omega) _ | refine bset ?_ (by simp) _ | refine balloc ?_ _ | assumption))
theorem doorR (w W : World) (tm : Array Value) (B : Nat) (Z x : Int) (hz : Z = x) (ht : tm[2]? = some (.pointer (some ⟨B, 0, none⟩))) (hB : w.heap.size ≤ B) (hc : W.cell? ⟨B, 0, none⟩ = some (.int .i64 x)) (hb : Below w.heap.size w W) :
    Leaves Tryz.prog Tryz.f20 tm (fun e w' => e = .returned (.int .i64 Z) ∧ Below w.heap.size w w') [{ target := .fn (.func 37) #[.pointer (some ⟨B, 0, none⟩)], args := #[] }] .returning W := by
  refine leaves_cons (f := 37) (args := #[.pointer (some ⟨B, 0, none⟩)]) (by simp) (by simp [go_sem]) ?_
  refine (catchSF_idle ⟨B, 0, none⟩ W).mono ?_
  rintro e u' w2 ⟨rfl, rfl, hb1⟩
  have hc1 : w2.cell? ⟨B, 0, none⟩ = some (.int .i64 x) := cell_keep hb1 hc
  have hB1 : Below w.heap.size w w2 := bstep hb hb1
  subst hz
  refine ⟨.int .i64 Z, ?_, rfl, hB1⟩
  simp [results, Tryz.results20, go_sem, ht, hc1]
end Go.Proofs.YtndghenlapbaaaaGreatDoor

/-
  ShardFault, the program's.
-/
set_option linter.unusedSimpArgs false
set_option linter.unusedVariables false
namespace Go.Proofs.YtndghenlapbaaaaGreatDoor
open Go.RowKit
set_option linter.unusedSectionVars false
variable [DecidableEq Rw] [Inhabited Rw] [DecidableEq Bal] [Inhabited Bal] [DecidableEq Ledg] [Inhabited Ledg] [DecidableEq Leg] [Inhabited Leg] [DecidableEq Cont] [Inhabited Cont] [DecidableEq LedgR] [Inhabited LedgR] [DecidableEq OutcR] [Inhabited OutcR] [DecidableEq Mrk] [Inhabited Mrk] [DecidableEq Shd] [Inhabited Shd] [DecidableEq ShdR] [Inhabited ShdR]
attribute [local go_sem ↓] Go.wp_at_zero Go.wp_at_succ

theorem conts_take {w : World} {a : Option Addr} {n c k : Nat} {xs : List Cont} (hx : contsR.V w (.slice a n c) xs) (hk : k ≤ n) : contsR.V w (.slice a k c) (xs.take k) := by
  obtain ⟨a', c', e, h1, h2, h3⟩ := hx
  simp only [Value.slice.injEq] at e
  obtain ⟨rfl, rfl, rfl⟩ := e
  refine ⟨a, c, by rw [List.length_take, Nat.min_eq_left hk], by rw [List.length_take]; omega, h2, fun i hi => ?_⟩
  rw [List.length_take] at hi
  have e : (xs.take k).getD i default = xs.getD i default := by simp [List.getD, List.getElem?_take, show i < k by omega]
  rw [e]
  exact h3 i (by omega)
theorem frz {w w' : World} {p : Addr} (hb : Below w.heap.size w w') (hp : p.block < w.heap.size) (h : w.frozen? p = false) : w'.frozen? p = false := by rw [hb.frozen hp]; exact h
theorem apartC_at {d : Shd} {k : Nat} (hk : k < d.held.length) : apartC d.idx (d.held.take k) (d.held.getD k default).legs = apartAt d k := by
  unfold apartC apartAt
  rw [apartB_range (by omega)]
  rfl
theorem listsF_ok {d : Shd} (h : listsF d = 0) : baseF d.idx d.bals = 0 ∧ LsOk d ∧ HeldOk d := by
  unfold listsF at h
  split at h
  · rename_i h0
    split at h
    · omega
    · rename_i h1
      split at h
      · rename_i h2
        split at h
        · rename_i h3
          split at h
          · rename_i h4
            exact ⟨h0, ⟨by omega, by omega, by omega, by omega, mrksOk_of h2, mrksOk_of h3⟩, heldOk_of h4⟩
          · rename_i h4; exact absurd h h4
        · rename_i h3; exact absurd h h3
      · rename_i h2; exact absurd h h2
  · rename_i h0; exact absurd h h0
set_option maxRecDepth 20000 in
set_option maxHeartbeats 8000000 in
theorem implShdF_any (x : Value) (d : Shd) (w : World) (hx : shdR.V w x d) :
    Calls Tryz.prog 20 #[x] w fun e w' => e = .returned (.int .i64 (shdF d)) ∧ Below w.heap.size w w' := by
  have HLi : Hid (∀ W, Below w.heap.size w W → Calls Tryz.prog 36 #[x] W fun e w' => e = .returned (.int .i64 (listsF d)) ∧ Below W.heap.size W w') := fun W hW => listsFault_any x d W (shdR.below hx hW)
  have HBo : Hid (∀ W, Below w.heap.size w W → baseF d.idx d.bals = 0 → Calls Tryz.prog 40 #[x] W fun e w' => ∃ b, e = .returned (.agg #[.int .i64 3, .map (some b)]) ∧ W.heap.size ≤ b ∧ Book w' b 54 (bookF (hereG d.idx d.bals)) ∧ Below W.heap.size W w') := fun W hW h0 => bookHere_any x d W (shdR.below hx hW) h0
  obtain ⟨u1, u2, u3, u4, u5, rfl, h1, h2, h3, h4, h5⟩ := hx
  have HX3 : Hid (∃ a c, u3 = .slice a d.held.length c ∧ d.held.length ≤ c ∧ c ≤ maxLen ∧ ∀ k, k < d.held.length → ∃ b o p q, a = some ⟨b, o, none⟩ ∧ w.cell? ⟨b, o + k * 2, none⟩ = some (.int .i64 (d.held.getD k default).id) ∧ w.cell? ⟨b, o + k * 2 + 1, none⟩ = some (.slice p (d.held.getD k default).legs.length q) ∧ contR.V w (.agg #[.int .i64 (d.held.getD k default).id, .slice p (d.held.getD k default).legs.length q]) (d.held.getD k default)) := conts_at h3
  obtain ⟨a1, c1, rfl⟩ := bals_form h1
  obtain ⟨a2, c2, rfl⟩ := mrks_form h2
  obtain ⟨a3, c3, rfl⟩ := conts_form h3
  obtain ⟨a4, c4, rfl⟩ := mrks_form h4
  obtain ⟨a5, c5, rfl⟩ := ints_form h5
  obtain ⟨_, _, e3, hc3, hm3, hx3⟩ := HX3.out
  simp only [Value.slice.injEq, true_and] at e3
  obtain ⟨rfl, rfl⟩ := e3
  unfold maxLen at hm3
  have HX : Hid (∀ k, k < d.held.length → ∃ b o p q, a3 = some ⟨b, o, none⟩ ∧ w.cell? ⟨b, o + k * 2, none⟩ = some (.int .i64 (d.held.getD k default).id) ∧ w.cell? ⟨b, o + k * 2 + 1, none⟩ = some (.slice p (d.held.getD k default).legs.length q) ∧ contR.V w (.agg #[.int .i64 (d.held.getD k default).id, .slice p (d.held.getD k default).legs.length q]) (d.held.getD k default)) := hx3
  have HAp : Hid (HeldOk d → ∀ k W id ul, k < d.held.length → Below w.heap.size w W → legsR.V W ul (d.held.getD k default).legs → Calls Tryz.prog 39 #[.int .i64 d.idx, .slice a3 k c3, .agg #[.int .i64 id, ul]] W (KeepE (apartAt d k) W)) := fun hh k W id ul hk hW hl => by
    rw [← apartC_at hk]
    exact keepApart_any d.idx id _ ul (d.held.take k) _ W (contsR.below (conts_take h3 (by omega)) hW) hl (by have := hh.len hk; omega)
  have HCo : Hid (HeldOk d → baseF d.idx d.bals = 0 → ∀ k W id ul b, k < d.held.length → legsR.V W ul (d.held.getD k default).legs → Book W b 54 (bookF (hereG d.idx d.bals)) → Calls Tryz.prog 41 #[.int .i64 d.idx, .agg #[.int .i64 3, .map (some b)], .agg #[.int .i64 id, ul]] W (KeepE (coverAt d k) W)) := fun hh h0 k W id ul b hk hl hb =>
    keepCovered_any d.idx id b ul d.bals _ W hb hl (by have := hh.len hk; omega) (base_idx h0).1 (base_idx h0).2 (hh.fault hk)
  have HD0 : Hid (¬ listsF d = 0 → shdF d = listsF d) := fun h => by unfold shdF; rw [if_neg h]
  have HD1 : Hid (listsF d = 0 → ∀ k, k < d.held.length → scanI (apartAt d) k = 0 → ¬ apartAt d k = 0 → shdF d = apartAt d k) := fun h k hk hs hc => by
    have h1 := scanI_hit hs hc _ hk
    unfold shdF keptF
    rw [if_pos h, if_neg (by rw [h1]; exact hc), h1]
  have HD2 : Hid (listsF d = 0 → scanI (apartAt d) d.held.length = 0 → ∀ k, k < d.held.length → scanI (coverAt d) k = 0 → ¬ coverAt d k = 0 → shdF d = coverAt d k) := fun h h0 k hk hs hc => by
    have h1 := scanI_hit hs hc _ hk
    unfold shdF keptF
    rw [if_pos h, if_pos h0, h1]
  have HD3 : Hid (listsF d = 0 → scanI (apartAt d) d.held.length = 0 → scanI (coverAt d) d.held.length = 0 → shdF d = 0) := fun h h0 h1 => by
    unfold shdF keptF
    rw [if_pos h, if_pos h0, h1]
  have HOk : Hid (listsF d = 0 → baseF d.idx d.bals = 0 ∧ LsOk d ∧ HeldOk d) := fun h => listsF_ok h
  clear h1 h2 h3 h4 h5 HX3 hx3
  generalize d.bals.length = n1 at *
  generalize d.votes.length = n2 at *
  generalize d.held.length = n3 at *
  generalize d.done.length = n4 at *
  generalize d.appl.length = n5 at *
  obtain ⟨Z, hZ⟩ : ∃ Z, Z = shdF d := ⟨_, rfl⟩
  rw [← hZ] at HD0 HD1 HD2 HD3 ⊢
  clear hZ
  generalize listsF d = lf at *
  have hmf : ∀ (fn : Fn) (first cap : Array Value) (w : World), (Instr.makeFunc fn first cap).run Tryz.prog w = .ok (.func fn first cap) w := fun _ _ _ _ => rfl
  go_enter_defers Tryz.func20, Tryz.ntmps20
  go_wp2_with fail
  refine (HLi.out _ (by (repeat (first | exact Below.refl _ _ | assumption | refine Below.drew ?_ | refine balloc ?_ _ | refine bset ?_ (by simp; omega) _ | refine bset ?_ (by simp) _ | refine bstep ?_ (by assumption))))).mono ?_
  rintro e w1 ⟨rfl, hb1⟩
  have f1 := (bcell hb1).2
  have hB1 : Below w.heap.size w w1 := bstep (by (repeat (first | exact Below.refl _ _ | assumption | refine Below.drew ?_ | refine balloc ?_ _ | refine bset ?_ (by simp; omega) _ | refine bset ?_ (by simp) _ | refine bstep ?_ (by assumption)))) hb1
  have hz1 := hb1.size
  simp at hz1
  have y0 : w1.cell? ⟨w.heap.size, 0, none⟩ = some (.int .i64 d.idx) := cell_keep hb1 (by simp [go_sem])
  have y1 : w1.cell? ⟨w.heap.size, 1, none⟩ = some (.slice a1 n1 c1) := cell_keep hb1 (by simp [go_sem])
  have y2 : w1.cell? ⟨w.heap.size, 2, none⟩ = some (.slice a2 n2 c2) := cell_keep hb1 (by simp [go_sem])
  have y3 : w1.cell? ⟨w.heap.size, 3, none⟩ = some (.slice a3 n3 c3) := cell_keep hb1 (by simp [go_sem])
  have y4 : w1.cell? ⟨w.heap.size, 4, none⟩ = some (.slice a4 n4 c4) := cell_keep hb1 (by simp [go_sem])
  have y5 : w1.cell? ⟨w.heap.size, 5, none⟩ = some (.slice a5 n5 c5) := cell_keep hb1 (by simp [go_sem])
  have r0 : w1.cell? ⟨w.heap.size + 1, 0, none⟩ = some (.int .i64 0) := cell_keep hb1 (by simp [go_sem])
  have rf : w1.frozen? ⟨w.heap.size + 1, 0, none⟩ = false := by rw [f1 _ _ (by simp)]; simp [go_sem]
  clear hb1 f1 HLi
  by_cases hlf : lf = 0
  rotate_left
  · have HC := HD0.out hlf
    have hlf' : (lf != 0) = true := by simp [hlf]
    clear HD0 HD1 HD2 HD3 HAp HCo HBo HX HOk
    go_wp2
    refine ⟨.int .i64 lf, by simp [results, Tryz.results20, go_sem, r0, rf], by rw [HC], ?_⟩
    (repeat (first | refine bset ?_ (by simp; omega) _ | refine bset ?_ (by simp) _ | refine balloc ?_ _ | assumption))
  obtain ⟨h0, hls, hhk⟩ := HOk.out hlf
  have HD1' : Hid (∀ k, k < n3 → scanI (apartAt d) k = 0 → ¬ apartAt d k = 0 → Z = apartAt d k) := HD1.out hlf
  have HD2' : Hid (scanI (apartAt d) n3 = 0 → ∀ k, k < n3 → scanI (coverAt d) k = 0 → ¬ coverAt d k = 0 → Z = coverAt d k) := HD2.out hlf
  have HD3' : Hid (scanI (apartAt d) n3 = 0 → scanI (coverAt d) n3 = 0 → Z = 0) := HD3.out hlf
  have HAp' : Hid (∀ k W id ul, k < n3 → Below w.heap.size w W → legsR.V W ul (d.held.getD k default).legs → Calls Tryz.prog 39 #[.int .i64 d.idx, .slice a3 k c3, .agg #[.int .i64 id, ul]] W (KeepE (apartAt d k) W)) := HAp.out hhk
  have HCo' : Hid (∀ k W id ul b, k < n3 → legsR.V W ul (d.held.getD k default).legs → Book W b 54 (bookF (hereG d.idx d.bals)) → Calls Tryz.prog 41 #[.int .i64 d.idx, .agg #[.int .i64 3, .map (some b)], .agg #[.int .i64 id, ul]] W (KeepE (coverAt d k) W)) := HCo.out hhk h0
  have HBo' : Hid (∀ W, Below w.heap.size w W → Calls Tryz.prog 40 #[.agg #[.int .i64 d.idx, .slice a1 n1 c1, .slice a2 n2 c2, .slice a3 n3 c3, .slice a4 n4 c4, .slice a5 n5 c5]] W fun e w' => ∃ b, e = .returned (.agg #[.int .i64 3, .map (some b)]) ∧ W.heap.size ≤ b ∧ Book w' b 54 (bookF (hereG d.idx d.bals)) ∧ Below W.heap.size W w') := fun W hW => HBo.out W hW h0
  clear HD0 HD1 HD2 HD3 HAp HCo HBo HOk h0 hls hhk
  rw [hlf]
  clear hlf
  go_wp2
  obtain ⟨wq, hwq⟩ : ∃ wq, wq = w1.setCell ⟨w.heap.size + 1, 0, none⟩ (.int .i64 0) := ⟨_, rfl⟩
  have hBq : Below w.heap.size w wq := by rw [hwq]; (repeat (first | refine bset ?_ (by simp; omega) _ | refine bset ?_ (by simp) _ | refine balloc ?_ _ | assumption))
  have zq : w.heap.size + 1 < wq.heap.size := by rw [hwq]; simp; omega
  replace y0 : wq.cell? ⟨w.heap.size, 0, none⟩ = some (.int .i64 d.idx) := by rw [hwq]; simp [go_sem, y0]
  replace y1 : wq.cell? ⟨w.heap.size, 1, none⟩ = some (.slice a1 n1 c1) := by rw [hwq]; simp [go_sem, y1]
  replace y2 : wq.cell? ⟨w.heap.size, 2, none⟩ = some (.slice a2 n2 c2) := by rw [hwq]; simp [go_sem, y2]
  replace y3 : wq.cell? ⟨w.heap.size, 3, none⟩ = some (.slice a3 n3 c3) := by rw [hwq]; simp [go_sem, y3]
  replace y4 : wq.cell? ⟨w.heap.size, 4, none⟩ = some (.slice a4 n4 c4) := by rw [hwq]; simp [go_sem, y4]
  replace y5 : wq.cell? ⟨w.heap.size, 5, none⟩ = some (.slice a5 n5 c5) := by rw [hwq]; simp [go_sem, y5]
  replace r0 : wq.cell? ⟨w.heap.size + 1, 0, none⟩ = some (.int .i64 0) := by rw [hwq]; simp [go_sem, r0]
  replace rf : wq.frozen? ⟨w.heap.size + 1, 0, none⟩ = false := by rw [hwq]; simp [go_sem, rf]
  rw [← hwq]
  clear hwq hB1 hz1
  try clear w1
  go_loopw [17] (fun i w' => ∃ k : Nat, k ≤ n3 ∧ i = .int .i64 k ∧ Hid (scanI (apartAt d) k = 0) ∧ Below wq.heap.size wq w') (fun i _ => n3 - (intOf i).toNat)
  case atStart => exact ⟨0, Nat.zero_le _, rfl, rfl, Below.refl _ _⟩
  case round =>
    obtain ⟨k, hk, rfl, HS, hbl⟩ := hrel
    have hBr : Below w.heap.size w wr := bstep hBq hbl
    have zr := hbl.size
    replace y0 := cell_keep hbl y0
    replace y1 := cell_keep hbl y1
    replace y2 := cell_keep hbl y2
    replace y3 := cell_keep hbl y3
    replace y4 := cell_keep hbl y4
    replace y5 := cell_keep hbl y5
    replace r0 := cell_keep hbl r0
    replace rf : wr.frozen? ⟨w.heap.size + 1, 0, none⟩ = false := by rw [hbl.frozen (p := ⟨w.heap.size + 1, 0, none⟩) zq]; exact rf
    by_cases hlt : k < n3
    · obtain ⟨bx, ox, pp, qq, rfl, g0, g1, hV⟩ := HX.out k hlt
      obtain ⟨ul, hul, hvl⟩ := hV
      simp only [Value.agg.injEq, Array.mk.injEq, List.cons.injEq, and_true, true_and] at hul
      subst hul
      have HC1 : Hid (∀ W, Below wr.heap.size wr W → Calls Tryz.prog 39 #[.int .i64 d.idx, .slice (some ⟨bx, ox, none⟩) k c3, .agg #[.int .i64 (d.held.getD k default).id, .slice pp (d.held.getD k default).legs.length qq]] W (KeepE (apartAt d k) W)) := fun W hW => HAp'.out k W _ _ hlt (bstep hBr hW) (legsR.below hvl (bstep hBr hW))
      have HP : Hid (¬ apartAt d k = 0 → Z = apartAt d k) := fun h => HD1'.out k hlt HS.out h
      have HN : Hid (apartAt d k = 0 → scanI (apartAt d) (k + 1) = 0) := fun h => scanI_succ HS.out h
      clear hvl HS
      generalize (d.held.getD k default).legs.length = ll at *
      generalize (d.held.getD k default).id = qid at *
      generalize apartAt d k = ak at *
      replace g0 := cell_keep hBr g0
      replace g1 := cell_keep hBr g1
      have zb : bx < wr.heap.size := World.block_lt_of_cell? wr _ g0
      have hkc : k ≤ c3 := by omega
      have zz0 : w.heap.size < wr.heap.size := by omega
      go_wp2
      refine wp_region_panicAs [{ target := .fn (.func 37) #[.pointer (some ⟨w.heap.size + 1, 0, none⟩)], args := #[] }] 2 (.pointer (some ⟨w.heap.size + 1, 0, none⟩)) (fun c W => ∃ q, c = [{ v := refV q, recovered := false }] ∧ Z = q ∧ W.cell? ⟨w.heap.size + 1, 0, none⟩ = some (.int .i64 0) ∧ W.frozen? ⟨w.heap.size + 1, 0, none⟩ = false ∧ Below w.heap.size w W) ?_ ?_
      · rintro c a W hd ht ⟨q, rfl, hz, hc, hf, hb⟩
        show Leaves Tryz.prog Tryz.f20 a.tmps _ a.defers (.panicking _) W
        rw [hd]
        exact doorP w W a.tmps _ Z q 0 hz ht (Nat.le_succ _) hc hf hb
      refine region_upto (fun W => Below wr.heap.size wr W ∧ W.cell? ⟨w.heap.size, 0, none⟩ = some (.int .i64 d.idx) ∧ W.cell? ⟨w.heap.size, 3, none⟩ = some (.slice (some ⟨bx, ox, none⟩) n3 c3) ∧ W.cell? ⟨wr.heap.size, 0, none⟩ = some (.int .i64 qid) ∧ W.cell? ⟨wr.heap.size, 1, none⟩ = some (.slice pp ll qq) ∧ W.cell? ⟨w.heap.size + 1, 0, none⟩ = some (.int .i64 0) ∧ W.frozen? ⟨w.heap.size + 1, 0, none⟩ = false) 8 (by kernel_rfl) ⟨by (repeat (first | exact Below.refl _ _ | assumption | refine Below.drew ?_ | refine balloc ?_ _ | refine bset ?_ (by simp; omega) _ | refine bset ?_ (by simp) _ | refine bstep ?_ (by assumption))), cell_keep (by (repeat (first | exact Below.refl _ _ | assumption | refine Below.drew ?_ | refine balloc ?_ _ | refine bset ?_ (by simp; omega) _ | refine bset ?_ (by simp) _ | refine bstep ?_ (by assumption)))) y0, cell_keep (by (repeat (first | exact Below.refl _ _ | assumption | refine Below.drew ?_ | refine balloc ?_ _ | refine bset ?_ (by simp; omega) _ | refine bset ?_ (by simp) _ | refine bstep ?_ (by assumption)))) y3, by simp [go_sem], by simp [go_sem], cell_keep (by (repeat (first | exact Below.refl _ _ | assumption | refine Below.drew ?_ | refine balloc ?_ _ | refine bset ?_ (by simp; omega) _ | refine bset ?_ (by simp) _ | refine bstep ?_ (by assumption)))) r0, frz (by (repeat (first | exact Below.refl _ _ | assumption | refine Below.drew ?_ | refine balloc ?_ _ | refine bset ?_ (by simp; omega) _ | refine bset ?_ (by simp) _ | refine bstep ?_ (by assumption)))) (show w.heap.size + 1 < wr.heap.size by omega) rf⟩ (fun hS => ?_)
      refine upto_takeN (i := 0) (v := ?_) rfl (by kernel_rfl) (by kernel_rfl) (by kernel_rfl) (by kernel_rfl) (fun _ _ _ => PanicAs.put (by decide)) (by rfl) hS ?_ ?_
      rotate_left
      · intro wS hSw
        try dsimp only at hSw
        first | (go_simp; done) | (go_simp; with_reducible rfl)
      try simp only [Act.put, List.getElem_toArray, List.getElem_cons_zero, List.getElem_cons_succ, List.setIfInBounds_toArray, List.set_cons_zero, List.set_cons_succ]
      refine upto_takeN (i := 1) (v := ?_) rfl (by kernel_rfl) (by kernel_rfl) (by kernel_rfl) (by kernel_rfl) (fun _ _ _ => PanicAs.put (by decide)) (by rfl) hS ?_ ?_
      rotate_left
      · intro wS hSw
        try dsimp only at hSw
        first | (go_simp; done) | (go_simp; with_reducible rfl)
      try simp only [Act.put, List.getElem_toArray, List.getElem_cons_zero, List.getElem_cons_succ, List.setIfInBounds_toArray, List.set_cons_zero, List.set_cons_succ]
      refine upto_takeN (i := 2) (v := ?_) rfl (by kernel_rfl) (by kernel_rfl) (by kernel_rfl) (by kernel_rfl) (fun _ _ _ => PanicAs.put (by decide)) (by rfl) hS ?_ ?_
      rotate_left
      · intro wS hSw
        try dsimp only at hSw
        first | (go_simp; done) | (go_simp; with_reducible rfl)
      try simp only [Act.put, List.getElem_toArray, List.getElem_cons_zero, List.getElem_cons_succ, List.setIfInBounds_toArray, List.set_cons_zero, List.set_cons_succ]
      refine upto_takeN (i := 3) (v := ?_) rfl (by kernel_rfl) (by kernel_rfl) (by kernel_rfl) (by kernel_rfl) (fun _ _ _ => PanicAs.put (by decide)) (by rfl) hS ?_ ?_
      rotate_left
      · intro wS hSw
        try dsimp only at hSw
        first | (go_simp; done) | (go_simp; with_reducible rfl)
      try simp only [Act.put, List.getElem_toArray, List.getElem_cons_zero, List.getElem_cons_succ, List.setIfInBounds_toArray, List.set_cons_zero, List.set_cons_succ]
      refine upto_takeN (i := 4) (v := ?_) rfl (by kernel_rfl) (by kernel_rfl) (by kernel_rfl) (by kernel_rfl) (fun _ _ _ => PanicAs.put (by decide)) (by rfl) hS ?_ ?_
      rotate_left
      · intro wS hSw
        try dsimp only at hSw
        first | (go_simp; done) | (go_simp; with_reducible rfl)
      try simp only [Act.put, List.getElem_toArray, List.getElem_cons_zero, List.getElem_cons_succ, List.setIfInBounds_toArray, List.set_cons_zero, List.set_cons_succ]
      refine upto_takeN (i := 5) (v := ?_) rfl (by kernel_rfl) (by kernel_rfl) (by kernel_rfl) (by kernel_rfl) (fun _ _ _ => PanicAs.put (by decide)) (by rfl) hS ?_ ?_
      rotate_left
      · intro wS hSw
        try dsimp only at hSw
        first | (go_simp; done) | (go_simp; with_reducible rfl)
      try simp only [Act.put, List.getElem_toArray, List.getElem_cons_zero, List.getElem_cons_succ, List.setIfInBounds_toArray, List.set_cons_zero, List.set_cons_succ]
      refine upto_takeN (i := 6) (v := ?_) rfl (by kernel_rfl) (by kernel_rfl) (by kernel_rfl) (by kernel_rfl) (fun _ _ _ => PanicAs.put (by decide)) (by rfl) hS ?_ ?_
      rotate_left
      · intro wS hSw
        try dsimp only at hSw
        first | (go_simp; done) | (go_simp; with_reducible rfl)
      try simp only [Act.put, List.getElem_toArray, List.getElem_cons_zero, List.getElem_cons_succ, List.setIfInBounds_toArray, List.set_cons_zero, List.set_cons_succ]
      refine upto_step (i := 7) (by kernel_rfl) rfl ?_
      intro K hK
      go_simp
      refine (HC1.out _ hS.1).mono ?_
      rintro e wz ⟨he, hbz⟩
      have hbz' : Below wr.heap.size wr wz := bstep hS.1 hbz
      have zz : w.heap.size + 1 < wr.heap.size := by omega
      rcases he with ⟨h, rfl⟩ | ⟨h, rfl⟩
      rotate_left
      · refine ⟨rfl, rfl, ak, rfl, HP.out h, cell_keep hbz' r0, frz hbz' zz rf, bstep hBr hbz'⟩
      refine hK _ _ (fun _ => ⟨hbz', cell_keep hbz hS.2.1, cell_keep hbz hS.2.2.1, cell_keep hbz hS.2.2.2.1, cell_keep hbz hS.2.2.2.2.1, cell_keep hbz' r0, frz hbz' zz rf⟩) ?_
      clear hK K hS hbz
      try simp only [Act.put, List.getElem_toArray, List.getElem_cons_zero, List.getElem_cons_succ, List.setIfInBounds_toArray, List.set_cons_zero, List.set_cons_succ]
      refine upto_done (by kernel_rfl) ?_
      refine PanicAs.normal ?_
      go_wp2
      exact ⟨⟨k + 1, by omega, by go_num, HN.out h, bstep hbl hbz'⟩, by simp [intOf]; omega⟩
    · have hkn : k = n3 := by omega
      subst hkn
      have HP2 : Hid (∀ j, j < k → scanI (coverAt d) j = 0 → ¬ coverAt d j = 0 → Z = coverAt d j) := HD2'.out HS.out
      have HP3 : Hid (scanI (coverAt d) k = 0 → Z = 0) := HD3'.out HS.out
      clear HD1' HD2' HD3' HAp' HS
      go_wp2_with fail
      refine (HBo'.out _ hBr).mono ?_
      rintro e w3 ⟨b, rfl, hbb, hbk, hb3⟩
      have hB3 : Below w.heap.size w w3 := bstep hBr hb3
      have zz : w.heap.size + 1 < wr.heap.size := by omega
      have z3 := hb3.size
      have zb : b < w3.heap.size := hbk.lt
      replace y0 := cell_keep hb3 y0
      replace y1 := cell_keep hb3 y1
      replace y2 := cell_keep hb3 y2
      replace y3 := cell_keep hb3 y3
      replace y4 := cell_keep hb3 y4
      replace y5 := cell_keep hb3 y5
      replace r0 := cell_keep hb3 r0
      replace rf := frz hb3 zz rf
      have HBk : Hid (Book w3 b 54 (bookF (hereG d.idx d.bals))) := hbk
      have zw : w.heap.size < w3.heap.size := by omega
      have zw1 : w.heap.size + 1 < w3.heap.size := by omega
      clear hbk hb3 HBo' hbl hBr hBq
      go_wp2
      obtain ⟨w4, hw4⟩ : ∃ w4, w4 = w3.alloc (.cells #[.int .i64 3, .map (some b)] 89) := ⟨_, rfl⟩
      have hb4 : Below w3.heap.size w3 w4 := by rw [hw4]; (repeat (first | exact Below.refl _ _ | assumption | refine Below.drew ?_ | refine balloc ?_ _ | refine bset ?_ (by simp; omega) _ | refine bset ?_ (by simp) _ | refine bstep ?_ (by assumption)))
      have q0 : w4.cell? ⟨w3.heap.size, 0, none⟩ = some (.int .i64 3) := by rw [hw4]; simp [go_sem]
      have q1 : w4.cell? ⟨w3.heap.size, 1, none⟩ = some (.map (some b)) := by rw [hw4]; simp [go_sem]
      rw [← hw4]
      clear hw4
      have hB4 : Below w.heap.size w w4 := bstep hB3 hb4
      have z4 : w.heap.size + 1 < w4.heap.size := by have := hb4.size; omega
      have HBk4 : Hid (Book w4 b 54 (bookF (hereG d.idx d.bals))) := HBk.out.below hb4
      replace y0 := cell_keep hb4 y0
      replace y1 := cell_keep hb4 y1
      replace y2 := cell_keep hb4 y2
      replace y3 := cell_keep hb4 y3
      replace y4 := cell_keep hb4 y4
      replace y5 := cell_keep hb4 y5
      replace r0 := cell_keep hb4 r0
      replace rf := frz hb4 (show w.heap.size + 1 < w3.heap.size by omega) rf
      clear HBk
      go_loopw [36] (fun i w' => ∃ j : Nat, j ≤ k ∧ i = .int .i64 j ∧ Hid (scanI (coverAt d) j = 0) ∧ Below w4.heap.size w4 w') (fun i _ => k - (intOf i).toNat)
      case atStart => exact ⟨0, Nat.zero_le _, rfl, rfl, Below.refl _ _⟩
      case round =>
        rename_i wr0
        obtain ⟨j, hj, rfl, HS, hbl⟩ := hrel
        have hBr : Below w.heap.size w wr := bstep hB4 hbl
        have zr := hbl.size
        replace y0 := cell_keep hbl y0
        replace y1 := cell_keep hbl y1
        replace y2 := cell_keep hbl y2
        replace y3 := cell_keep hbl y3
        replace y4 := cell_keep hbl y4
        replace y5 := cell_keep hbl y5
        replace r0 := cell_keep hbl r0
        replace rf := frz hbl z4 rf
        replace q0 := cell_keep hbl q0
        replace q1 := cell_keep hbl q1
        have HBkr : Hid (Book wr b 54 (bookF (hereG d.idx d.bals))) := HBk4.out.below hbl
        by_cases hlt2 : j < k
        · obtain ⟨bx, ox, pp, qq, rfl, g0, g1, hV⟩ := HX.out j hlt2
          obtain ⟨ul, hul, hvl⟩ := hV
          simp only [Value.agg.injEq, Array.mk.injEq, List.cons.injEq, and_true, true_and] at hul
          subst hul
          have HC1 : Hid (∀ W, Below wr.heap.size wr W → Calls Tryz.prog 41 #[.int .i64 d.idx, .agg #[.int .i64 3, .map (some b)], .agg #[.int .i64 (d.held.getD j default).id, .slice pp (d.held.getD j default).legs.length qq]] W (KeepE (coverAt d j) W)) := fun W hW => HCo'.out j W _ _ b hlt2 (legsR.below hvl (bstep hBr hW)) (HBkr.out.below hW)
          have HP : Hid (¬ coverAt d j = 0 → Z = coverAt d j) := fun h => HP2.out j hlt2 HS.out h
          have HN : Hid (coverAt d j = 0 → scanI (coverAt d) (j + 1) = 0) := fun h => scanI_succ HS.out h
          clear hvl HS
          generalize (d.held.getD j default).legs.length = ll at *
          generalize (d.held.getD j default).id = qid at *
          generalize coverAt d j = ak at *
          replace g0 := cell_keep hBr g0
          replace g1 := cell_keep hBr g1
          have zb2 : bx < wr.heap.size := World.block_lt_of_cell? wr _ g0
          have zq3 : w3.heap.size < wr.heap.size := World.block_lt_of_cell? wr _ q0
          have zz2 : w.heap.size + 1 < wr.heap.size := by omega
          have zz3 : w.heap.size < wr.heap.size := by omega
          go_wp2_with fail
          refine (HC1.out _ (by (repeat (first | exact Below.refl _ _ | assumption | refine Below.drew ?_ | refine balloc ?_ _ | refine bset ?_ (by simp; omega) _ | refine bset ?_ (by simp) _ | refine bstep ?_ (by assumption))))).mono ?_
          rintro e wz ⟨he, hbz⟩
          have hbz' : Below wr.heap.size wr wz := bstep (by (repeat (first | exact Below.refl _ _ | assumption | refine Below.drew ?_ | refine balloc ?_ _ | refine bset ?_ (by simp; omega) _ | refine bset ?_ (by simp) _ | refine bstep ?_ (by assumption)))) hbz
          clear hbz
          rcases he with ⟨h, rfl⟩ | ⟨h, rfl⟩
          · have HN2 : Hid (scanI (coverAt d) (j + 1) = 0) := HN.out h
            clear HN HP h
            go_wp2
            exact ⟨⟨j + 1, by omega, by go_num, HN2, bstep hbl hbz'⟩, by simp [intOf]; omega⟩
          · have hz := HP.out h
            exact doorP w wz _ _ Z ak 0 hz rfl (Nat.le_succ _) (cell_keep hbz' r0) (frz hbz' zz2 rf) (bstep hBr hbz')
        · have hjn : j = k := by omega
          subst hjn
          have hz := HP3.out HS.out
          clear HP2 HP3 HS
          go_wp2
          refine doorR w _ _ (w.heap.size + 1) Z 0 hz rfl (Nat.le_succ _) (by simp [go_sem, r0, rf]) ?_
          (repeat (first | refine bset ?_ (by simp; omega) _ | refine bset ?_ (by simp) _ | refine balloc ?_ _ | assumption))
end Go.Proofs.YtndghenlapbaaaaGreatDoor

/-
  ShardText, the program's.
-/
set_option linter.unusedSimpArgs false
set_option linter.unusedVariables false
namespace Go.Proofs.YtndghenlapbaaaaGreatDoor
open Go.RowKit
set_option linter.unusedSectionVars false
variable [DecidableEq Leg] [Inhabited Leg] [DecidableEq Bal] [Inhabited Bal] [DecidableEq Mrk] [Inhabited Mrk] [DecidableEq Cont] [Inhabited Cont] [DecidableEq Shd] [Inhabited Shd] [DecidableEq Rw] [Inhabited Rw] [DecidableEq Ledg] [Inhabited Ledg] [DecidableEq LedgR] [Inhabited LedgR] [DecidableEq OutcR] [Inhabited OutcR] [DecidableEq ShdR] [Inhabited ShdR]
attribute [local go_sem ↓] Go.wp_at_zero Go.wp_at_succ

def txtC (d : Shd) : Int := shdF d
def txtT (d : Shd) : ByteArray := if shdF d = 0 then shTxt d else ⟨#[]⟩
set_option maxRecDepth 20000 in
set_option maxHeartbeats 16000000 in
theorem implText_any (x : Value) (d : Shd) (w : World) (hx : shdR.V w x d) (hrr : shdF d = 0 → TxtOk d) (ht : TabW w) :
    Calls Tryz.prog 7 #[x] w fun e w' => e = .returned (.agg #[.int .i64 (txtC d), .string (txtT d)]) ∧ Below w.heap.size w w' := by
  have HSf : Hid (∀ W, Below w.heap.size w W → Calls Tryz.prog 20 #[x] W fun e w' => e = .returned (.int .i64 (shdF d)) ∧ Below W.heap.size W w') := fun W hW => implShdF_any x d W (shdR.below hx hW)
  have HTab : Hid (TabW w) := ht
  by_cases hf : shdF d = 0
  rotate_left
  · obtain ⟨u1, u2, u3, u4, u5, rfl, h1, h2, h3, h4, h5⟩ := hx
    obtain ⟨a1, c1, rfl⟩ := bals_form h1
    obtain ⟨a2, c2, rfl⟩ := mrks_form h2
    obtain ⟨a3, c3, rfl⟩ := conts_form h3
    obtain ⟨a4, c4, rfl⟩ := mrks_form h4
    obtain ⟨a5, c5, rfl⟩ := ints_form h5
    have e1 : txtT d = ⟨#[]⟩ := by unfold txtT; rw [if_neg hf]
    rw [e1]
    unfold txtC
    clear h1 h2 h3 h4 h5 e1 hrr ht
    generalize shdF d = g at *
    have hg : (g != 0) = true := by simp [hf]
    go_enter Tryz.func7, Tryz.ntmps7
    go_wp2_with fail
    refine (HSf.out _ (by (repeat (first | exact Below.refl _ _ | assumption | refine Below.drew ?_ | refine balloc ?_ _ | refine bset ?_ (by simp; omega) _ | refine bset ?_ (by simp) _ | refine bstep ?_ (by assumption))))).mono ?_
    rintro e w1 ⟨rfl, hb1⟩
    have r0 : w1.cell? ⟨w.heap.size + 1, 0, none⟩ = some (.int .i64 0) := cell_keep hb1 (by simp [go_sem])
    have r1 : w1.cell? ⟨w.heap.size + 1, 1, none⟩ = some (.string ⟨#[]⟩) := cell_keep hb1 (by simp [go_sem])
    have rf : ∀ o, w1.frozen? ⟨w.heap.size + 1, o, none⟩ = false := fun o => by rw [(bcell hb1).2 _ _ (by simp)]; simp [go_sem]
    have hB1 : Below w.heap.size w w1 := by (repeat (first | exact Below.refl _ _ | assumption | refine Below.drew ?_ | refine balloc ?_ _ | refine bset ?_ (by simp; omega) _ | refine bset ?_ (by simp) _ | refine bstep ?_ (by assumption)))
    clear hb1 HSf
    go_wp2
    exact bodyPost_ret (v := .agg #[.int .i64 g, .string ⟨#[]⟩]) (by simp [results, Tryz.results7, go_sem, r0, r1, rf]) rfl ⟨rfl, by (repeat (first | refine bset ?_ (by simp; omega) _ | refine bset ?_ (by simp) _ | refine balloc ?_ _ | assumption))⟩
  have hr := hrr hf
  have HZ : Hid (txtC d = 0 ∧ txtT d = shTxt d) := ⟨hf, by unfold txtT; rw [if_pos hf]⟩
  rw [hf] at HSf
  clear hrr hf ht
  obtain ⟨u1, u2, u3, u4, u5, rfl, h1, h2, h3, h4, h5⟩ := hx
  obtain ⟨a1, c1, rfl⟩ := bals_form h1
  obtain ⟨a2, c2, rfl⟩ := mrks_form h2
  obtain ⟨a3, c3, rfl⟩ := conts_form h3
  obtain ⟨a4, c4, rfl⟩ := mrks_form h4
  obtain ⟨a5, c5, rfl⟩ := ints_form h5
  have HX0 : Hid (∀ k, k < d.bals.length → ∃ b o, a1 = some ⟨b, o, none⟩ ∧ w.cell? ⟨b, o + k * 3, none⟩ = some (.int .i64 (d.bals.getD k default).ac) ∧ w.cell? ⟨b, o + k * 3 + 1, none⟩ = some (.int .i64 (d.bals.getD k default).ast) ∧ w.cell? ⟨b, o + k * 3 + 2, none⟩ = some (.int .i64 (d.bals.getD k default).am)) := fun k hk => by
    obtain ⟨_, _, e, _, _, hc⟩ := h1
    simp only [Value.slice.injEq, true_and] at e
    obtain ⟨rfl, rfl⟩ := e
    exact hc k hk
  have hm1 : c1 ≤ 9223372036854775807 ∧ d.bals.length ≤ c1 := by
    obtain ⟨_, _, e, hl, hm, _⟩ := h1
    simp only [Value.slice.injEq, true_and] at e
    obtain ⟨rfl, rfl⟩ := e
    unfold maxLen at hm
    exact ⟨by omega, hl⟩
  have HOk0 : Hid (∀ k, k < d.bals.length → okN (d.bals.getD k default).ac ∧ okN (d.bals.getD k default).ast ∧ okN (d.bals.getD k default).am) := hr.rb
  have HSz0 : Hid (∀ k, k ≤ d.bals.length → (catT (tx0 d) (hasT d) k).size ≤ 200000000) := fun k hk => by
    have h1 := catT_size (tx0 d) (hasT d) (hLs0 d) k
    have h2 := hr.nb
    have h3 := lineB_size ⟨#[115, 104, 97, 114, 100]⟩ [d.idx] (by decide) (by simp)
    have h4 : (tx0 d).size ≤ 100 := h3
    omega
  have hPv0 : Hid (catT (tx0 d) (hasT d) d.bals.length = tx1 d) := rfl
  have HX1 : Hid (∀ k, k < d.votes.length → ∃ b o, a2 = some ⟨b, o, none⟩ ∧ w.cell? ⟨b, o + k * 2, none⟩ = some (.int .i64 (d.votes.getD k default).con) ∧ w.cell? ⟨b, o + k * 2 + 1, none⟩ = some (.int .i64 (d.votes.getD k default).val)) := fun k hk => by
    obtain ⟨_, _, e, _, _, hc⟩ := h2
    simp only [Value.slice.injEq, true_and] at e
    obtain ⟨rfl, rfl⟩ := e
    exact hc k hk
  have hm2 : c2 ≤ 9223372036854775807 ∧ d.votes.length ≤ c2 := by
    obtain ⟨_, _, e, hl, hm, _⟩ := h2
    simp only [Value.slice.injEq, true_and] at e
    obtain ⟨rfl, rfl⟩ := e
    unfold maxLen at hm
    exact ⟨by omega, hl⟩
  have HOk1 : Hid (∀ k, k < d.votes.length → okN (d.votes.getD k default).con ∧ okN (d.votes.getD k default).val) := hr.rv
  have HSz1 : Hid (∀ k, k ≤ d.votes.length → (catT (tx1 d) (voteT d) k).size ≤ 400000000) := fun k hk => by
    have h1 := catT_size (tx1 d) (voteT d) (hLs1 d) k
    have h2 := hr.nv
    have h3 := HSz0.out d.bals.length (Nat.le_refl _)
    have h4 : (tx1 d).size ≤ 200000000 := h3
    omega
  have hPv1 : Hid (catT (tx1 d) (voteT d) d.votes.length = tx2 d) := rfl
  have HX2 : Hid (∀ k, k < d.held.length → ∃ b o p m q, a3 = some ⟨b, o, none⟩ ∧ w.cell? ⟨b, o + k * 2, none⟩ = some (.int .i64 (d.held.getD k default).id) ∧ w.cell? ⟨b, o + k * 2 + 1, none⟩ = some (.slice p m q)) := fun k hk => by
    obtain ⟨_, _, e, _, _, hc⟩ := h3
    simp only [Value.slice.injEq, true_and] at e
    obtain ⟨rfl, rfl⟩ := e
    obtain ⟨b, o, u, e, _, p, hv⟩ := hc k hk
    obtain ⟨s, rfl, hl⟩ := hv
    obtain ⟨ap, cp, rfl⟩ := legs_form hl
    exact ⟨b, o, ap, _, cp, e, p 0 (by omega), p 1 (by omega)⟩
  have hm3 : c3 ≤ 9223372036854775807 ∧ d.held.length ≤ c3 := by
    obtain ⟨_, _, e, hl, hm, _⟩ := h3
    simp only [Value.slice.injEq, true_and] at e
    obtain ⟨rfl, rfl⟩ := e
    unfold maxLen at hm
    exact ⟨by omega, hl⟩
  have HOk2 : Hid (∀ k, k < d.held.length → okN (d.held.getD k default).id) := hr.rh
  have HSz2 : Hid (∀ k, k ≤ d.held.length → (catT (tx2 d) (heldT d) k).size ≤ 600000000) := fun k hk => by
    have h1 := catT_size (tx2 d) (heldT d) (hLs2 d) k
    have h2 := hr.nh
    have h3 := HSz1.out d.votes.length (Nat.le_refl _)
    have h4 : (tx2 d).size ≤ 400000000 := h3
    omega
  have hPv2 : Hid (catT (tx2 d) (heldT d) d.held.length = tx3 d) := rfl
  have HX3 : Hid (∀ k, k < d.done.length → ∃ b o, a4 = some ⟨b, o, none⟩ ∧ w.cell? ⟨b, o + k * 2, none⟩ = some (.int .i64 (d.done.getD k default).con) ∧ w.cell? ⟨b, o + k * 2 + 1, none⟩ = some (.int .i64 (d.done.getD k default).val)) := fun k hk => by
    obtain ⟨_, _, e, _, _, hc⟩ := h4
    simp only [Value.slice.injEq, true_and] at e
    obtain ⟨rfl, rfl⟩ := e
    exact hc k hk
  have hm4 : c4 ≤ 9223372036854775807 ∧ d.done.length ≤ c4 := by
    obtain ⟨_, _, e, hl, hm, _⟩ := h4
    simp only [Value.slice.injEq, true_and] at e
    obtain ⟨rfl, rfl⟩ := e
    unfold maxLen at hm
    exact ⟨by omega, hl⟩
  have HOk3 : Hid (∀ k, k < d.done.length → okN (d.done.getD k default).con ∧ okN (d.done.getD k default).val) := hr.rd
  have HSz3 : Hid (∀ k, k ≤ d.done.length → (catT (tx3 d) (doneT d) k).size ≤ 800000000) := fun k hk => by
    have h1 := catT_size (tx3 d) (doneT d) (hLs3 d) k
    have h2 := hr.nd
    have h3 := HSz2.out d.held.length (Nat.le_refl _)
    have h4 : (tx3 d).size ≤ 600000000 := h3
    omega
  have hPv3 : Hid (catT (tx3 d) (doneT d) d.done.length = shTxt d) := rfl
  have hi := hr.ri
  clear h1 h2 h3 h4 h5 hr
  generalize d.appl.length = n5 at *
  obtain ⟨n1, hn1⟩ : ∃ n, n = d.bals.length := ⟨_, rfl⟩
  rw [← hn1] at HX0 hm1 HOk0 HSz0 hPv0 HSf ⊢
  clear hn1
  obtain ⟨n2, hn2⟩ : ∃ n, n = d.votes.length := ⟨_, rfl⟩
  rw [← hn2] at HX1 hm2 HOk1 HSz1 hPv1 HSf ⊢
  clear hn2
  obtain ⟨n3, hn3⟩ : ∃ n, n = d.held.length := ⟨_, rfl⟩
  rw [← hn3] at HX2 hm3 HOk2 HSz2 hPv2 HSf ⊢
  clear hn3
  obtain ⟨n4, hn4⟩ : ∃ n, n = d.done.length := ⟨_, rfl⟩
  rw [← hn4] at HX3 hm4 HOk3 HSz3 hPv3 HSf ⊢
  clear hn4
  have H0 : Hid (lineB ⟨#[115, 104, 97, 114, 100]⟩ [d.idx] = tx0 d) := rfl
  have hw10 : ((⟨#[115, 104, 97, 114, 100]⟩ : ByteArray)).size ≤ 10 := by decide
  go_enter Tryz.func7, Tryz.ntmps7
  go_wp2_with fail
  refine (HSf.out _ (by (repeat (first | exact Below.refl _ _ | assumption | refine Below.drew ?_ | refine balloc ?_ _ | refine bset ?_ (by simp; omega) _ | refine bset ?_ (by simp) _ | refine bstep ?_ (by assumption))))).mono ?_
  rintro e w1 ⟨rfl, hb1⟩
  have hB1 : Below w.heap.size w w1 := by (repeat (first | exact Below.refl _ _ | assumption | refine Below.drew ?_ | refine balloc ?_ _ | refine bset ?_ (by simp; omega) _ | refine bset ?_ (by simp) _ | refine bstep ?_ (by assumption)))
  have hz1 := hb1.size
  simp at hz1
  have y0 : w1.cell? ⟨w.heap.size, 0, none⟩ = some (.int .i64 d.idx) := cell_keep hb1 (by simp [go_sem])
  have y1 : w1.cell? ⟨w.heap.size, 1, none⟩ = some (.slice a1 n1 c1) := cell_keep hb1 (by simp [go_sem])
  have y2 : w1.cell? ⟨w.heap.size, 2, none⟩ = some (.slice a2 n2 c2) := cell_keep hb1 (by simp [go_sem])
  have y3 : w1.cell? ⟨w.heap.size, 3, none⟩ = some (.slice a3 n3 c3) := cell_keep hb1 (by simp [go_sem])
  have y4 : w1.cell? ⟨w.heap.size, 4, none⟩ = some (.slice a4 n4 c4) := cell_keep hb1 (by simp [go_sem])
  have r0 : w1.cell? ⟨w.heap.size + 1, 0, none⟩ = some (.int .i64 0) := cell_keep hb1 (by simp [go_sem])
  have r1 : w1.cell? ⟨w.heap.size + 1, 1, none⟩ = some (.string ⟨#[]⟩) := cell_keep hb1 (by simp [go_sem])
  have rf : ∀ o, w1.frozen? ⟨w.heap.size + 1, o, none⟩ = false := fun o => by rw [(bcell hb1).2 _ _ (by simp)]; simp [go_sem]
  clear hb1 HSf
  obtain ⟨B, hBe⟩ : ∃ B, B = w1.heap.size := ⟨_, rfl⟩
  have HBe : Hid (w1.heap.size = B) := hBe.symm
  have hBB : w.heap.size + 2 ≤ B := by omega
  have zy : w.heap.size < w1.heap.size := by omega
  have HB0 : Hid (Lib.IsBuilder 54 5 B B (Lib.strCells ⟨#[]⟩) (w1.alloc (.cells #[.pointer none, .slice none 0 0] 54))) := by
    show Lib.IsBuilder _ _ _ _ _ _
    rw [hBe]
    exact Lib.fresh_isBuilder _ _ w1
  go_wp2_with fail
  obtain ⟨w2, hw2⟩ : ∃ w2, w2 = w1.alloc (.cells #[.pointer none, .slice none 0 0] 54) := ⟨_, rfl⟩
  have hz2 : w2.heap.size = w1.heap.size + 1 := by rw [hw2]; simp
  have HZ2 : Hid (w2.heap.size = w1.heap.size + 1) := hz2
  have hB2 : Below w1.heap.size w1 w2 := by rw [hw2]; (repeat (first | exact Below.refl _ _ | assumption | refine Below.drew ?_ | refine balloc ?_ _ | refine bset ?_ (by simp; omega) _ | refine bset ?_ (by simp) _ | refine bstep ?_ (by assumption)))
  rw [← hw2] at HB0 ⊢
  have HNm : Hid (∀ g W, W.cell? ⟨g, 0, none⟩ = some (.int .i64 d.idx) → Below w.heap.size w W → Calls Tryz.prog 22 #[.string ⟨#[115, 104, 97, 114, 100]⟩, .slice (some ⟨g, 0, none⟩) 1 1] W fun e w' => e = .returned (.string (lineB ⟨#[115, 104, 97, 114, 100]⟩ [d.idx])) ∧ Below W.heap.size W w') := fun g W h hW => num1_any _ g d.idx W hw10 h hi (HTab.out.below hW)
  refine (HNm.out _ _ ?h1 ?h2).mono ?_
  case h1 => first | (simp [go_sem]; done) | (rw [← HZ2.out]; simp [go_sem])
  case h2 => exact bstep hB1 (bstep hB2 (by (repeat (first | exact Below.refl _ _ | assumption | refine Below.drew ?_ | refine balloc ?_ _ | refine bset ?_ (by simp; omega) _ | refine bset ?_ (by simp) _ | refine bstep ?_ (by assumption)))))
  clear HNm
  rintro e w3 ⟨rfl, hb3⟩
  rw [H0.out]
  have hB3 : Below w2.heap.size w2 w3 := bstep (by (repeat (first | exact Below.refl _ _ | assumption | refine Below.drew ?_ | refine balloc ?_ _ | refine bset ?_ (by simp; omega) _ | refine bset ?_ (by simp) _ | refine bstep ?_ (by assumption)))) hb3
  have HB3 : Hid (Lib.IsBuilder 54 5 B B (Lib.strCells ⟨#[]⟩) w3) := isB_below HB0.out hB3
  have hz3 : B ≤ w3.heap.size := by have := hB3.size; omega
  have hbl3 : Below B w1 w3 := by
    rw [hBe]
    exact bstep hB2 hB3
  have hs0 : (tx0 d).size ≤ 100 := lineB_size _ _ (by decide) (by simp)
  clear hb3 HB0 hw2 hB2 hB3 hz2 HZ2
  rw [← hBe]
  clear hBe
  go_wp2_with fail
  refine (write_any B B ⟨#[]⟩ (tx0 d) _ HB3.out (by have : (⟨#[]⟩ : ByteArray).size = 0 := rfl; omega) hz3).mono ?_
  rintro e w4 ⟨⟨r, rfl⟩, h4, hb4⟩
  have HB : Hid (Lib.IsBuilder 54 5 B B (Lib.strCells (catT (tx0 d) (hasT d) 0)) w4) := by
    show Lib.IsBuilder _ _ _ _ _ _
    have e : (⟨#[]⟩ : ByteArray) ++ tx0 d = tx0 d := ba_ext (by rw [ba_append]; rfl)
    rw [e] at h4
    exact h4
  have hbl : Below B w1 w4 := hbl3.trans hb4
  have hzB : B ≤ w4.heap.size := by have := hb4.size; omega
  have x1 := (hbl.cell (p := ⟨w.heap.size, 1, none⟩) (by dsimp only; omega)).trans y1
  clear h4 hb4 HB3 hz3 hbl3 hi hw10
  go_wp2
  go_loopw [27] (fun i W => ∃ k : Nat, k ≤ n1 ∧ i = .int .i64 k ∧ Hid (Lib.IsBuilder 54 5 B B (Lib.strCells (catT (tx0 d) (hasT d) k)) W) ∧ Below B w1 W ∧ B ≤ W.heap.size) (fun i _ => n1 - (intOf i).toNat)
  case atStart => exact ⟨0, Nat.zero_le _, rfl, HB, hbl, hzB⟩
  case round =>
    clear hbl hzB HB
    obtain ⟨k, hk, rfl, HB, hbl, hzB⟩ := hrel
    have hs := HSz0.out k hk
    have hBw : Below w.heap.size w wr := hB1.trans (hbl.mono (by omega))
    by_cases hlt : k < n1
    · obtain ⟨bx, ox, rfl, g⟩ := HX0.out k hlt
      have hok := HOk0.out k hlt
      have hls := hLs0 d k
      have HC : Hid (catT (tx0 d) (hasT d) (k + 1) = catT (tx0 d) (hasT d) k ++ hasT d k) := rfl
      have HLw : Hid (hasT d k = lineB ⟨#[104, 97, 115]⟩ [(d.bals.getD k default).ac, (d.bals.getD k default).ast, (d.bals.getD k default).am]) := rfl
      obtain ⟨g0, g1, g2⟩ := g
      obtain ⟨k0, k1, k2⟩ := hok
      replace g0 := cell_keep hBw g0
      replace g1 := cell_keep hBw g1
      replace g2 := cell_keep hBw g2
      have zb : bx < wr.heap.size := World.block_lt_of_cell? wr _ g0
      rw [HLw.out] at hls
      generalize catT (tx0 d) (hasT d) k = A at *
      generalize (d.bals.getD k default).ac = v0 at *
      generalize (d.bals.getD k default).ast = v1 at *
      generalize (d.bals.getD k default).am = v2 at *
      generalize hLB : lineB ⟨#[104, 97, 115]⟩ [v0, v1, v2] = LB at *
      have HLB : Hid (lineB ⟨#[104, 97, 115]⟩ [v0, v1, v2] = LB) := hLB
      have HC2 : Hid (catT (tx0 d) (hasT d) (k + 1) = A ++ LB) := by show _ = _; rw [HC.out, HLw.out]; try rw [hLB]
      have hti : (k : Int) < (n1 : Int) := by omega
      have hti0 : (0 : Int) ≤ (k : Int) := by omega
      clear hLB HC HLw
      have hw10 : ((⟨#[104, 97, 115]⟩ : ByteArray)).size ≤ 10 := by decide
      go_wp2_with fail
      refine (num3_any _ _ v0 v1 v2 _ hw10 (by simp [go_sem]) (by simp [go_sem]) (by simp [go_sem]) k0 k1 k2 (HTab.out.below (by (repeat (first | exact Below.refl _ _ | assumption | refine Below.drew ?_ | refine balloc ?_ _ | refine bset ?_ (by simp; omega) _ | refine bset ?_ (by simp) _ | refine bstep ?_ (by assumption)))))).mono ?_
      rintro e w3 ⟨rfl, hb3⟩
      rw [HLB.out]
      have hB3 : Below wr.heap.size wr w3 := bstep (by (repeat (first | exact Below.refl _ _ | assumption | refine Below.drew ?_ | refine balloc ?_ _ | refine bset ?_ (by simp; omega) _ | refine bset ?_ (by simp) _ | refine bstep ?_ (by assumption)))) hb3
      have HB3 : Hid (Lib.IsBuilder 54 5 B B (Lib.strCells A) w3) := isB_below HB.out hB3
      have hbl3 : Below B w1 w3 := hbl.trans (hB3.mono hzB)
      have hz3 : B ≤ w3.heap.size := by have := hB3.size; omega
      clear hb3 HB g0 g1 g2
      go_wp2_with fail
      refine (write_any B B A LB _ HB3.out (by omega) hz3).mono ?_
      rintro e w4 ⟨⟨r, rfl⟩, h4, hb4⟩
      have HB4 : Hid (Lib.IsBuilder 54 5 B B (Lib.strCells (catT (tx0 d) (hasT d) (k + 1))) w4) := by
        show Lib.IsBuilder _ _ _ _ _ _
        rw [HC2.out]
        exact h4
      have hbl4 : Below B w1 w4 := hbl3.trans hb4
      have hz4 : B ≤ w4.heap.size := by have := hb4.size; omega
      clear h4 hb4 hB3 HB3 hbl3
      go_wp2
      exact ⟨⟨k + 1, by omega, by go_num, HB4, hbl4, hz4⟩, by simp [intOf]; omega⟩
    · obtain rfl : k = n1 := by omega
      have hti : ¬ (k : Int) < (k : Int) := by omega
      have HPrev : Hid (catT (tx0 d) (hasT d) k = tx1 d) := hPv0.out
      have hb0 := HB.out
      rw [HPrev.out] at hb0
      replace HB : Hid (Lib.IsBuilder 54 5 B B (Lib.strCells (tx1 d)) wr) := hb0
      clear hb0
      have x2 := (hbl.cell (p := ⟨w.heap.size, 2, none⟩) (by dsimp only; omega)).trans y2
      go_wp2
      go_loopw [44] (fun i W => ∃ k : Nat, k ≤ n2 ∧ i = .int .i64 k ∧ Hid (Lib.IsBuilder 54 5 B B (Lib.strCells (catT (tx1 d) (voteT d) k)) W) ∧ Below B w1 W ∧ B ≤ W.heap.size) (fun i _ => n2 - (intOf i).toNat)
      case atStart => exact ⟨0, Nat.zero_le _, rfl, HB, hbl, hzB⟩
      case round =>
        clear hbl hzB HB
        obtain ⟨k, hk, rfl, HB, hbl, hzB⟩ := hrel
        have hs := HSz1.out k hk
        have hBw : Below w.heap.size w wr := hB1.trans (hbl.mono (by omega))
        by_cases hlt : k < n2
        · obtain ⟨bx, ox, rfl, g⟩ := HX1.out k hlt
          have hok := HOk1.out k hlt
          have hls := hLs1 d k
          have HC : Hid (catT (tx1 d) (voteT d) (k + 1) = catT (tx1 d) (voteT d) k ++ voteT d k) := rfl
          have HLw : Hid (voteT d k = lineB ⟨#[118, 111, 116, 101]⟩ [(d.votes.getD k default).con, (d.votes.getD k default).val]) := rfl
          obtain ⟨g0, g1⟩ := g
          obtain ⟨k0, k1⟩ := hok
          replace g0 := cell_keep hBw g0
          replace g1 := cell_keep hBw g1
          have zb : bx < wr.heap.size := World.block_lt_of_cell? wr _ g0
          rw [HLw.out] at hls
          generalize catT (tx1 d) (voteT d) k = A at *
          generalize (d.votes.getD k default).con = v0 at *
          generalize (d.votes.getD k default).val = v1 at *
          generalize hLB : lineB ⟨#[118, 111, 116, 101]⟩ [v0, v1] = LB at *
          have HLB : Hid (lineB ⟨#[118, 111, 116, 101]⟩ [v0, v1] = LB) := hLB
          have HC2 : Hid (catT (tx1 d) (voteT d) (k + 1) = A ++ LB) := by show _ = _; rw [HC.out, HLw.out]; try rw [hLB]
          have hti : (k : Int) < (n2 : Int) := by omega
          have hti0 : (0 : Int) ≤ (k : Int) := by omega
          clear hLB HC HLw
          have hw10 : ((⟨#[118, 111, 116, 101]⟩ : ByteArray)).size ≤ 10 := by decide
          go_wp2_with fail
          refine (num2_any _ _ v0 v1 _ hw10 (by simp [go_sem]) (by simp [go_sem]) k0 k1 (HTab.out.below (by (repeat (first | exact Below.refl _ _ | assumption | refine Below.drew ?_ | refine balloc ?_ _ | refine bset ?_ (by simp; omega) _ | refine bset ?_ (by simp) _ | refine bstep ?_ (by assumption)))))).mono ?_
          rintro e w3 ⟨rfl, hb3⟩
          rw [HLB.out]
          have hB3 : Below wr.heap.size wr w3 := bstep (by (repeat (first | exact Below.refl _ _ | assumption | refine Below.drew ?_ | refine balloc ?_ _ | refine bset ?_ (by simp; omega) _ | refine bset ?_ (by simp) _ | refine bstep ?_ (by assumption)))) hb3
          have HB3 : Hid (Lib.IsBuilder 54 5 B B (Lib.strCells A) w3) := isB_below HB.out hB3
          have hbl3 : Below B w1 w3 := hbl.trans (hB3.mono hzB)
          have hz3 : B ≤ w3.heap.size := by have := hB3.size; omega
          clear hb3 HB g0 g1
          go_wp2_with fail
          refine (write_any B B A LB _ HB3.out (by omega) hz3).mono ?_
          rintro e w4 ⟨⟨r, rfl⟩, h4, hb4⟩
          have HB4 : Hid (Lib.IsBuilder 54 5 B B (Lib.strCells (catT (tx1 d) (voteT d) (k + 1))) w4) := by
            show Lib.IsBuilder _ _ _ _ _ _
            rw [HC2.out]
            exact h4
          have hbl4 : Below B w1 w4 := hbl3.trans hb4
          have hz4 : B ≤ w4.heap.size := by have := hb4.size; omega
          clear h4 hb4 hB3 HB3 hbl3
          go_wp2
          exact ⟨⟨k + 1, by omega, by go_num, HB4, hbl4, hz4⟩, by simp [intOf]; omega⟩
        · obtain rfl : k = n2 := by omega
          have hti : ¬ (k : Int) < (k : Int) := by omega
          have HPrev : Hid (catT (tx1 d) (voteT d) k = tx2 d) := hPv1.out
          have hb0 := HB.out
          rw [HPrev.out] at hb0
          replace HB : Hid (Lib.IsBuilder 54 5 B B (Lib.strCells (tx2 d)) wr) := hb0
          clear hb0
          have x3 := (hbl.cell (p := ⟨w.heap.size, 3, none⟩) (by dsimp only; omega)).trans y3
          go_wp2
          go_loopw [59] (fun i W => ∃ k : Nat, k ≤ n3 ∧ i = .int .i64 k ∧ Hid (Lib.IsBuilder 54 5 B B (Lib.strCells (catT (tx2 d) (heldT d) k)) W) ∧ Below B w1 W ∧ B ≤ W.heap.size) (fun i _ => n3 - (intOf i).toNat)
          case atStart => exact ⟨0, Nat.zero_le _, rfl, HB, hbl, hzB⟩
          case round =>
            clear hbl hzB HB
            obtain ⟨k, hk, rfl, HB, hbl, hzB⟩ := hrel
            have hs := HSz2.out k hk
            have hBw : Below w.heap.size w wr := hB1.trans (hbl.mono (by omega))
            by_cases hlt : k < n3
            · obtain ⟨bx, ox, pl, ml, ql, rfl, g⟩ := HX2.out k hlt
              have hok := HOk2.out k hlt
              have hls := hLs2 d k
              have HC : Hid (catT (tx2 d) (heldT d) (k + 1) = catT (tx2 d) (heldT d) k ++ heldT d k) := rfl
              have HLw : Hid (heldT d k = lineB ⟨#[104, 101, 108, 100]⟩ [(d.held.getD k default).id]) := rfl
              obtain ⟨g0, g1⟩ := g
              have k0 := hok
              replace g0 := cell_keep hBw g0
              replace g1 := cell_keep hBw g1
              have zb : bx < wr.heap.size := World.block_lt_of_cell? wr _ g0
              rw [HLw.out] at hls
              generalize catT (tx2 d) (heldT d) k = A at *
              generalize (d.held.getD k default).id = v0 at *
              generalize hLB : lineB ⟨#[104, 101, 108, 100]⟩ [v0] = LB at *
              have HLB : Hid (lineB ⟨#[104, 101, 108, 100]⟩ [v0] = LB) := hLB
              have HC2 : Hid (catT (tx2 d) (heldT d) (k + 1) = A ++ LB) := by show _ = _; rw [HC.out, HLw.out]; try rw [hLB]
              have hti : (k : Int) < (n3 : Int) := by omega
              have hti0 : (0 : Int) ≤ (k : Int) := by omega
              clear hLB HC HLw
              have hw10 : ((⟨#[104, 101, 108, 100]⟩ : ByteArray)).size ≤ 10 := by decide
              go_wp2_with fail
              refine (num1_any _ _ v0 _ hw10 (by simp [go_sem]) k0 (HTab.out.below (by (repeat (first | exact Below.refl _ _ | assumption | refine Below.drew ?_ | refine balloc ?_ _ | refine bset ?_ (by simp; omega) _ | refine bset ?_ (by simp) _ | refine bstep ?_ (by assumption)))))).mono ?_
              rintro e w3 ⟨rfl, hb3⟩
              rw [HLB.out]
              have hB3 : Below wr.heap.size wr w3 := bstep (by (repeat (first | exact Below.refl _ _ | assumption | refine Below.drew ?_ | refine balloc ?_ _ | refine bset ?_ (by simp; omega) _ | refine bset ?_ (by simp) _ | refine bstep ?_ (by assumption)))) hb3
              have HB3 : Hid (Lib.IsBuilder 54 5 B B (Lib.strCells A) w3) := isB_below HB.out hB3
              have hbl3 : Below B w1 w3 := hbl.trans (hB3.mono hzB)
              have hz3 : B ≤ w3.heap.size := by have := hB3.size; omega
              clear hb3 HB g0 g1
              go_wp2_with fail
              refine (write_any B B A LB _ HB3.out (by omega) hz3).mono ?_
              rintro e w4 ⟨⟨r, rfl⟩, h4, hb4⟩
              have HB4 : Hid (Lib.IsBuilder 54 5 B B (Lib.strCells (catT (tx2 d) (heldT d) (k + 1))) w4) := by
                show Lib.IsBuilder _ _ _ _ _ _
                rw [HC2.out]
                exact h4
              have hbl4 : Below B w1 w4 := hbl3.trans hb4
              have hz4 : B ≤ w4.heap.size := by have := hb4.size; omega
              clear h4 hb4 hB3 HB3 hbl3
              go_wp2
              exact ⟨⟨k + 1, by omega, by go_num, HB4, hbl4, hz4⟩, by simp [intOf]; omega⟩
            · obtain rfl : k = n3 := by omega
              have hti : ¬ (k : Int) < (k : Int) := by omega
              have HPrev : Hid (catT (tx2 d) (heldT d) k = tx3 d) := hPv2.out
              have hb0 := HB.out
              rw [HPrev.out] at hb0
              replace HB : Hid (Lib.IsBuilder 54 5 B B (Lib.strCells (tx3 d)) wr) := hb0
              clear hb0
              have x4 := (hbl.cell (p := ⟨w.heap.size, 4, none⟩) (by dsimp only; omega)).trans y4
              go_wp2
              go_loopw [72] (fun i W => ∃ k : Nat, k ≤ n4 ∧ i = .int .i64 k ∧ Hid (Lib.IsBuilder 54 5 B B (Lib.strCells (catT (tx3 d) (doneT d) k)) W) ∧ Below B w1 W ∧ B ≤ W.heap.size) (fun i _ => n4 - (intOf i).toNat)
              case atStart => exact ⟨0, Nat.zero_le _, rfl, HB, hbl, hzB⟩
              case round =>
                clear hbl hzB HB
                obtain ⟨k, hk, rfl, HB, hbl, hzB⟩ := hrel
                have hs := HSz3.out k hk
                have hBw : Below w.heap.size w wr := hB1.trans (hbl.mono (by omega))
                by_cases hlt : k < n4
                · obtain ⟨bx, ox, rfl, g⟩ := HX3.out k hlt
                  have hok := HOk3.out k hlt
                  have hls := hLs3 d k
                  have HC : Hid (catT (tx3 d) (doneT d) (k + 1) = catT (tx3 d) (doneT d) k ++ doneT d k) := rfl
                  have HLw : Hid (doneT d k = lineB ⟨#[100, 111, 110, 101]⟩ [(d.done.getD k default).con, (d.done.getD k default).val]) := rfl
                  obtain ⟨g0, g1⟩ := g
                  obtain ⟨k0, k1⟩ := hok
                  replace g0 := cell_keep hBw g0
                  replace g1 := cell_keep hBw g1
                  have zb : bx < wr.heap.size := World.block_lt_of_cell? wr _ g0
                  rw [HLw.out] at hls
                  generalize catT (tx3 d) (doneT d) k = A at *
                  generalize (d.done.getD k default).con = v0 at *
                  generalize (d.done.getD k default).val = v1 at *
                  generalize hLB : lineB ⟨#[100, 111, 110, 101]⟩ [v0, v1] = LB at *
                  have HLB : Hid (lineB ⟨#[100, 111, 110, 101]⟩ [v0, v1] = LB) := hLB
                  have HC2 : Hid (catT (tx3 d) (doneT d) (k + 1) = A ++ LB) := by show _ = _; rw [HC.out, HLw.out]; try rw [hLB]
                  have hti : (k : Int) < (n4 : Int) := by omega
                  have hti0 : (0 : Int) ≤ (k : Int) := by omega
                  clear hLB HC HLw
                  have hw10 : ((⟨#[100, 111, 110, 101]⟩ : ByteArray)).size ≤ 10 := by decide
                  go_wp2_with fail
                  refine (num2_any _ _ v0 v1 _ hw10 (by simp [go_sem]) (by simp [go_sem]) k0 k1 (HTab.out.below (by (repeat (first | exact Below.refl _ _ | assumption | refine Below.drew ?_ | refine balloc ?_ _ | refine bset ?_ (by simp; omega) _ | refine bset ?_ (by simp) _ | refine bstep ?_ (by assumption)))))).mono ?_
                  rintro e w3 ⟨rfl, hb3⟩
                  rw [HLB.out]
                  have hB3 : Below wr.heap.size wr w3 := bstep (by (repeat (first | exact Below.refl _ _ | assumption | refine Below.drew ?_ | refine balloc ?_ _ | refine bset ?_ (by simp; omega) _ | refine bset ?_ (by simp) _ | refine bstep ?_ (by assumption)))) hb3
                  have HB3 : Hid (Lib.IsBuilder 54 5 B B (Lib.strCells A) w3) := isB_below HB.out hB3
                  have hbl3 : Below B w1 w3 := hbl.trans (hB3.mono hzB)
                  have hz3 : B ≤ w3.heap.size := by have := hB3.size; omega
                  clear hb3 HB g0 g1
                  go_wp2_with fail
                  refine (write_any B B A LB _ HB3.out (by omega) hz3).mono ?_
                  rintro e w4 ⟨⟨r, rfl⟩, h4, hb4⟩
                  have HB4 : Hid (Lib.IsBuilder 54 5 B B (Lib.strCells (catT (tx3 d) (doneT d) (k + 1))) w4) := by
                    show Lib.IsBuilder _ _ _ _ _ _
                    rw [HC2.out]
                    exact h4
                  have hbl4 : Below B w1 w4 := hbl3.trans hb4
                  have hz4 : B ≤ w4.heap.size := by have := hb4.size; omega
                  clear h4 hb4 hB3 HB3 hbl3
                  go_wp2
                  exact ⟨⟨k + 1, by omega, by go_num, HB4, hbl4, hz4⟩, by simp [intOf]; omega⟩
                · obtain rfl : k = n4 := by omega
                  have hti : ¬ (k : Int) < (k : Int) := by omega
                  have HPrev : Hid (catT (tx3 d) (doneT d) k = shTxt d) := hPv3.out
                  have hb0 := HB.out
                  rw [HPrev.out] at hb0
                  replace HB : Hid (Lib.IsBuilder 54 5 B B (Lib.strCells (shTxt d)) wr) := hb0
                  clear hb0
                  go_wp2_with fail
                  refine (text_any B B (shTxt d) _ HB.out hzB).mono ?_
                  rintro e w9 ⟨rfl, hb9⟩
                  have hBl9 : Below B w1 w9 := hbl.trans hb9
                  have q0 : w9.cell? ⟨w.heap.size + 1, 0, none⟩ = some (.int .i64 0) := (hBl9.cell (p := ⟨w.heap.size + 1, 0, none⟩) (by dsimp only; omega)).trans r0
                  have q1 : w9.cell? ⟨w.heap.size + 1, 1, none⟩ = some (.string ⟨#[]⟩) := (hBl9.cell (p := ⟨w.heap.size + 1, 1, none⟩) (by dsimp only; omega)).trans r1
                  have qf : ∀ o, w9.frozen? ⟨w.heap.size + 1, o, none⟩ = false := fun o => (hBl9.frozen (p := ⟨w.heap.size + 1, o, none⟩) (by dsimp only; omega)).trans (rf o)
                  have hB9 : Below w.heap.size w w9 := hB1.trans (hBl9.mono (by omega))
                  clear hb9 hBl9 HB
                  go_wp2
                  refine bodyPost_ret (v := .agg #[.int .i64 0, .string (shTxt d)]) (by simp [results, Tryz.results7, go_sem, q0, q1, qf]) rfl ⟨by rw [HZ.out.1, HZ.out.2], by (repeat (first | refine bset ?_ (by simp; omega) _ | refine bset ?_ (by simp) _ | refine balloc ?_ _ | assumption))⟩
end Go.Proofs.YtndghenlapbaaaaGreatDoor

/-
  ShardFault, the document's.
-/
set_option linter.unusedSimpArgs false
set_option linter.unusedVariables false
namespace Go.Proofs.YtndghenlapbaaaaGreatDoor
open Go.RowKit
set_option linter.unusedSectionVars false
variable [DecidableEq Rw] [Inhabited Rw] [DecidableEq Bal] [Inhabited Bal] [DecidableEq Ledg] [Inhabited Ledg] [DecidableEq Leg] [Inhabited Leg] [DecidableEq Cont] [Inhabited Cont] [DecidableEq LedgR] [Inhabited LedgR] [DecidableEq OutcR] [Inhabited OutcR] [DecidableEq Mrk] [Inhabited Mrk] [DecidableEq Shd] [Inhabited Shd] [DecidableEq ShdR] [Inhabited ShdR]
attribute [local go_sem ↓] Go.wp_at_zero Go.wp_at_succ

theorem l10Base_any (i : Int) (x : Value) (xs : List Bal) (w : World) (hx : balsR.V w x xs) :
    Calls Tryz.prog 29 #[.int .i64 i, x] w fun e w' => e = .returned (.int .i64 (baseF i xs)) ∧ Below w.heap.size w w' := by
  have HB : Hid (∀ W, Below w.heap.size w W → Calls Tryz.prog 50 #[x] W fun e w' => e = .returned (.int .i64 (balFault xs)) ∧ Below W.heap.size W w') := fun W hW => specBalFault_any x xs W (balsR.below hx hW)
  obtain ⟨a, c, rfl⟩ := bals_form hx
  clear hx
  generalize xs.length = n at *
  unfold baseF
  cases h : inB i 0 2
  · go_enter Tryz.func29, Tryz.ntmps29
    go_wp2_with (first | (go_at_call 49; refine (l1In_any _ _ _ _).mono ?_; rintro e w' ⟨rfl, rfl⟩; rw [h]))
    go_ret
    exact ⟨rfl, by (repeat (first | exact Below.refl _ _ | assumption | refine Below.drew ?_ | refine balloc ?_ _ | refine bset ?_ (by simp; omega) _ | refine bset ?_ (by simp) _ | refine bstep ?_ (by assumption)))⟩
  · go_enter Tryz.func29, Tryz.ntmps29
    go_wp2_with (first | (go_at_call 49; refine (l1In_any _ _ _ _).mono ?_; rintro e w' ⟨rfl, rfl⟩; rw [h]) | (go_at_call 50; refine (HB.out _ (by (repeat (first | exact Below.refl _ _ | assumption | refine Below.drew ?_ | refine balloc ?_ _ | refine bset ?_ (by simp; omega) _ | refine bset ?_ (by simp) _ | refine bstep ?_ (by assumption))))).mono ?_; rintro e w' ⟨rfl, hb1⟩))
    go_ret
    exact ⟨rfl, by (repeat (first | exact Below.refl _ _ | assumption | refine Below.drew ?_ | refine balloc ?_ _ | refine bset ?_ (by simp; omega) _ | refine bset ?_ (by simp) _ | refine bstep ?_ (by assumption)))⟩
set_option maxRecDepth 20000 in
set_option maxHeartbeats 8000000 in
theorem specShdF_any (x : Value) (d : Shd) (w : World) (hx : shdR.V w x d) :
    Calls Tryz.prog 14 #[x] w fun e w' => e = .returned (.int .i64 (shdF d)) ∧ Below w.heap.size w w' := by
  have HHd : Hid (∀ W, Below w.heap.size w W → BalsOk d.bals → Calls Tryz.prog 31 #[x] W fun e w' => e = .returned (.int .i64 (tailF d)) ∧ Below W.heap.size W w') := fun W hW hb => l10Held_any x d W (shdR.below hx hW) hb
  obtain ⟨u1, u2, u3, u4, u5, rfl, h1, h2, h3, h4, h5⟩ := hx
  have HBa : Hid (∀ W, Below w.heap.size w W → Calls Tryz.prog 29 #[.int .i64 d.idx, u1] W fun e w' => e = .returned (.int .i64 (baseF d.idx d.bals)) ∧ Below W.heap.size W w') := fun W hW => l10Base_any _ u1 _ W (balsR.below h1 hW)
  have HVo : Hid (∀ W, Below w.heap.size w W → Calls Tryz.prog 30 #[u2] W fun e w' => e = .returned (.int .i64 (mrkF d.votes)) ∧ Below W.heap.size W w') := fun W hW => l10Marks_any u2 _ W (mrksR.below h2 hW)
  have HDo : Hid (∀ W, Below w.heap.size w W → Calls Tryz.prog 30 #[u4] W fun e w' => e = .returned (.int .i64 (mrkF d.done)) ∧ Below W.heap.size W w') := fun W hW => l10Marks_any u4 _ W (mrksR.below h4 hW)
  obtain ⟨a1, c1, rfl⟩ := bals_form h1
  obtain ⟨a2, c2, rfl, hc2, hm2, _⟩ := h2
  obtain ⟨a3, c3, rfl, hc3, hm3, _⟩ := conts_at h3
  obtain ⟨a4, c4, rfl, hc4, hm4, _⟩ := h4
  obtain ⟨a5, c5, rfl, hc5, hm5, _⟩ := h5
  unfold maxLen at hm2 hm3 hm4 hm5
  have HD0 : Hid (¬ baseF d.idx d.bals = 0 → shdF d = baseF d.idx d.bals) := fun h => by unfold shdF listsF; rw [if_neg h, if_neg h]
  have HD1 : Hid (baseF d.idx d.bals = 0 → (100 < d.votes.length ∨ 100 < d.held.length ∨ 100 < d.done.length ∨ 100 < d.appl.length) → shdF d = 2) := fun h h1 => by unfold shdF listsF; rw [if_pos h, if_pos h1]; rfl
  have HD2 : Hid (baseF d.idx d.bals = 0 → ¬ (100 < d.votes.length ∨ 100 < d.held.length ∨ 100 < d.done.length ∨ 100 < d.appl.length) → ¬ mrkF d.votes = 0 → shdF d = mrkF d.votes) := fun h h1 h2 => by unfold shdF listsF; rw [if_pos h, if_neg h1, if_neg h2, if_neg h2]
  have HD3 : Hid (baseF d.idx d.bals = 0 → ¬ (100 < d.votes.length ∨ 100 < d.held.length ∨ 100 < d.done.length ∨ 100 < d.appl.length) → mrkF d.votes = 0 → ¬ mrkF d.done = 0 → shdF d = mrkF d.done) := fun h h1 h2 h3 => by unfold shdF listsF; rw [if_pos h, if_neg h1, if_pos h2, if_neg h3, if_neg h3]
  have HD4 : Hid (baseF d.idx d.bals = 0 → ¬ (100 < d.votes.length ∨ 100 < d.held.length ∨ 100 < d.done.length ∨ 100 < d.appl.length) → mrkF d.votes = 0 → mrkF d.done = 0 → shdF d = tailF d) := fun h h1 h2 h3 => shdF_tail h h1 h2 h3
  have HBO : Hid (baseF d.idx d.bals = 0 → BalsOk d.bals) := fun h => by
    unfold baseF at h
    split at h
    · exact balsOk_of h
    · omega
  generalize d.bals.length = n1 at *
  generalize d.votes.length = n2 at *
  generalize d.held.length = n3 at *
  generalize d.done.length = n4 at *
  generalize d.appl.length = n5 at *
  generalize tailF d = tf at *
  generalize mrkF d.votes = fv at *
  generalize mrkF d.done = fd at *
  generalize hbf : baseF d.idx d.bals = bf at *
  obtain ⟨Z, hZ⟩ : ∃ Z, Z = shdF d := ⟨_, rfl⟩
  rw [← hZ] at HD0 HD1 HD2 HD3 HD4 ⊢
  clear hZ hbf h1 h3
  go_enter Tryz.func14, Tryz.ntmps14
  go_wp2_with fail
  refine (HBa.out _ (by (repeat (first | exact Below.refl _ _ | assumption | refine Below.drew ?_ | refine balloc ?_ _ | refine bset ?_ (by simp; omega) _ | refine bset ?_ (by simp) _ | refine bstep ?_ (by assumption))))).mono ?_
  rintro e w1 ⟨rfl, hb1⟩
  have y0 : w1.cell? ⟨w.heap.size, 0, none⟩ = some (.int .i64 d.idx) := cell_keep hb1 (by simp [go_sem])
  have y1 : w1.cell? ⟨w.heap.size, 1, none⟩ = some (.slice a1 n1 c1) := cell_keep hb1 (by simp [go_sem])
  have y2 : w1.cell? ⟨w.heap.size, 2, none⟩ = some (.slice a2 n2 c2) := cell_keep hb1 (by simp [go_sem])
  have y3 : w1.cell? ⟨w.heap.size, 3, none⟩ = some (.slice a3 n3 c3) := cell_keep hb1 (by simp [go_sem])
  have y4 : w1.cell? ⟨w.heap.size, 4, none⟩ = some (.slice a4 n4 c4) := cell_keep hb1 (by simp [go_sem])
  have y5 : w1.cell? ⟨w.heap.size, 5, none⟩ = some (.slice a5 n5 c5) := cell_keep hb1 (by simp [go_sem])
  have hB1 : Below w.heap.size w w1 := bstep (by (repeat (first | exact Below.refl _ _ | assumption | refine Below.drew ?_ | refine balloc ?_ _ | refine bset ?_ (by simp; omega) _ | refine bset ?_ (by simp) _ | refine bstep ?_ (by assumption)))) hb1
  clear hb1 HBa
  by_cases hbf : bf = 0
  rotate_left
  · have HC := HD0.out hbf
    have hbf' : (bf != 0) = true := by simp [hbf]
    go_wp2
    go_ret
    exact ⟨by rw [HC]; rfl, by (repeat (first | exact Below.refl _ _ | assumption | refine Below.drew ?_ | refine balloc ?_ _ | refine bset ?_ (by simp; omega) _ | refine bset ?_ (by simp) _ | refine bstep ?_ (by assumption)))⟩
  have HBO' := HBO.out hbf
  have HHd' : Hid (∀ W, Below w.heap.size w W → Calls Tryz.prog 31 #[.agg #[.int .i64 d.idx, .slice a1 n1 c1, .slice a2 n2 c2, .slice a3 n3 c3, .slice a4 n4 c4, .slice a5 n5 c5]] W fun e w' => e = .returned (.int .i64 tf) ∧ Below W.heap.size W w') := fun W hW => HHd.out W hW HBO'
  have HD1' : Hid ((100 < n2 ∨ 100 < n3 ∨ 100 < n4 ∨ 100 < n5) → Z = 2) := fun h => HD1.out hbf h
  have HD2' : Hid (¬ (100 < n2 ∨ 100 < n3 ∨ 100 < n4 ∨ 100 < n5) → ¬ fv = 0 → Z = fv) := fun h h2 => HD2.out hbf h h2
  have HD3' : Hid (¬ (100 < n2 ∨ 100 < n3 ∨ 100 < n4 ∨ 100 < n5) → fv = 0 → ¬ fd = 0 → Z = fd) := fun h h2 h3 => HD3.out hbf h h2 h3
  have HD4' : Hid (¬ (100 < n2 ∨ 100 < n3 ∨ 100 < n4 ∨ 100 < n5) → fv = 0 → fd = 0 → Z = tf) := fun h h2 h3 => HD4.out hbf h h2 h3
  rw [hbf]
  clear HD0 HD1 HD2 HD3 HD4 HBO HBO' HHd hbf
  by_cases m2 : 100 < n2
  · have HC := HD1'.out (.inl m2)
    have m2' : (100 : Int) < n2 := by omega
    go_wp2
    go_ret
    exact ⟨by rw [HC]; rfl, by (repeat (first | exact Below.refl _ _ | assumption | refine Below.drew ?_ | refine balloc ?_ _ | refine bset ?_ (by simp; omega) _ | refine bset ?_ (by simp) _ | refine bstep ?_ (by assumption)))⟩
  have m2' : ¬ (100 : Int) < n2 := by omega
  by_cases m3 : 100 < n3
  · have HC := HD1'.out (.inr (.inl m3))
    have m3' : (100 : Int) < n3 := by omega
    go_wp2
    go_ret
    exact ⟨by rw [HC]; rfl, by (repeat (first | exact Below.refl _ _ | assumption | refine Below.drew ?_ | refine balloc ?_ _ | refine bset ?_ (by simp; omega) _ | refine bset ?_ (by simp) _ | refine bstep ?_ (by assumption)))⟩
  have m3' : ¬ (100 : Int) < n3 := by omega
  by_cases m4 : 100 < n4
  · have HC := HD1'.out (.inr (.inr (.inl m4)))
    have m4' : (100 : Int) < n4 := by omega
    go_wp2
    go_ret
    exact ⟨by rw [HC]; rfl, by (repeat (first | exact Below.refl _ _ | assumption | refine Below.drew ?_ | refine balloc ?_ _ | refine bset ?_ (by simp; omega) _ | refine bset ?_ (by simp) _ | refine bstep ?_ (by assumption)))⟩
  have m4' : ¬ (100 : Int) < n4 := by omega
  by_cases m5 : 100 < n5
  · have HC := HD1'.out (.inr (.inr (.inr m5)))
    have m5' : (100 : Int) < n5 := by omega
    go_wp2
    go_ret
    exact ⟨by rw [HC]; rfl, by (repeat (first | exact Below.refl _ _ | assumption | refine Below.drew ?_ | refine balloc ?_ _ | refine bset ?_ (by simp; omega) _ | refine bset ?_ (by simp) _ | refine bstep ?_ (by assumption)))⟩
  have m5' : ¬ (100 : Int) < n5 := by omega
  have hmany : ¬ (100 < n2 ∨ 100 < n3 ∨ 100 < n4 ∨ 100 < n5) := by omega
  have HE2 : Hid (¬ fv = 0 → Z = fv) := fun h => HD2'.out hmany h
  have HE3 : Hid (fv = 0 → ¬ fd = 0 → Z = fd) := fun h h2 => HD3'.out hmany h h2
  have HE4 : Hid (fv = 0 → fd = 0 → Z = tf) := fun h h2 => HD4'.out hmany h h2
  clear HD1' HD2' HD3' HD4' hmany
  go_wp2_with fail
  refine (HVo.out _ hB1).mono ?_
  rintro e w2 ⟨rfl, hb2⟩
  have hB2 : Below w.heap.size w w2 := bstep hB1 hb2
  replace y0 := cell_keep hb2 y0
  replace y1 := cell_keep hb2 y1
  replace y2 := cell_keep hb2 y2
  replace y3 := cell_keep hb2 y3
  replace y4 := cell_keep hb2 y4
  replace y5 := cell_keep hb2 y5
  clear hb2 HVo
  by_cases hfv : fv = 0
  rotate_left
  · have HC := HE2.out hfv
    have hfv' : (fv != 0) = true := by simp [hfv]
    go_wp2
    go_ret
    exact ⟨by rw [HC]; rfl, by (repeat (first | exact Below.refl _ _ | assumption | refine Below.drew ?_ | refine balloc ?_ _ | refine bset ?_ (by simp; omega) _ | refine bset ?_ (by simp) _ | refine bstep ?_ (by assumption)))⟩
  rw [hfv]
  go_wp2_with fail
  refine (HDo.out _ hB2).mono ?_
  rintro e w3 ⟨rfl, hb3⟩
  have hB3 : Below w.heap.size w w3 := bstep hB2 hb3
  replace y0 := cell_keep hb3 y0
  replace y1 := cell_keep hb3 y1
  replace y2 := cell_keep hb3 y2
  replace y3 := cell_keep hb3 y3
  replace y4 := cell_keep hb3 y4
  replace y5 := cell_keep hb3 y5
  clear hb3 HDo
  by_cases hfd : fd = 0
  rotate_left
  · have HC := HE3.out hfv hfd
    have hfd' : (fd != 0) = true := by simp [hfd]
    go_wp2
    go_ret
    exact ⟨by rw [HC]; rfl, by (repeat (first | exact Below.refl _ _ | assumption | refine Below.drew ?_ | refine balloc ?_ _ | refine bset ?_ (by simp; omega) _ | refine bset ?_ (by simp) _ | refine bstep ?_ (by assumption)))⟩
  have HC : Hid (Z = tf) := HE4.out hfv hfd
  rw [hfd]
  clear HE2 HE3 HE4 hfv hfd
  go_wp2_with fail
  refine (HHd'.out _ hB3).mono ?_
  rintro e w4 ⟨rfl, hb4⟩
  go_wp2
  go_ret
  exact ⟨by rw [HC.out]; rfl, bstep hB3 hb4⟩
end Go.Proofs.YtndghenlapbaaaaGreatDoor

