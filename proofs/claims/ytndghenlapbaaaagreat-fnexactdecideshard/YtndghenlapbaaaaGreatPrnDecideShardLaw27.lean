import Derived.Test.YtndghenlapbaaaaGreatPrnDecideShardLaw26
import Derived.Test.YtndghenlapbaaaaGreatPrnDecideShardLaw2
import Derived.Test.YtndghenlapbaaaaGreatPrnDecideShardLaw22
import Derived.BigQuiet
import Derived.Deep.QuietTactic
import Derived.Deep.RegionHeld3
import Derived.Test.YtndghenlapbaaaaGreatShD
import Derived.Test.YtndghenlapbaaaaGreatPrnDecideShardLaw7
import Derived.Test.YtndghenlapbaaaaGreatPrnDecideShardLaw21
import Derived.Test.YtndghenlapbaaaaGreatPrnDecideShardLaw1
set_option linter.unusedSimpArgs false
set_option linter.unusedVariables false
set_option linter.unusedSectionVars false

/-
 The door of ShardFault: what is left when it panics with a refusal, or returns.
-/
namespace Go.Proofs.YtndghenlapbaaaaGreat
open Go.RowKit
variable [DecidableEq Rw] [Inhabited Rw] [DecidableEq Bal] [Inhabited Bal] [DecidableEq Ledg] [Inhabited Ledg] [DecidableEq Leg] [Inhabited Leg] [DecidableEq Cont] [Inhabited Cont] [DecidableEq LedgR] [Inhabited LedgR] [DecidableEq OutcR] [Inhabited OutcR] [DecidableEq Mrk] [Inhabited Mrk] [DecidableEq Shd] [Inhabited Shd] [DecidableEq ShdR] [Inhabited ShdR]
attribute [local go_sem ↓] Go.wp_at_zero Go.wp_at_succ

def PanicAs (D : List Deferred) (k : Nat) (p : Value) (R : List PanicEntry → World → Prop) (Q : Exit → Act → World → Prop) : Exit → Act → World → Prop
 | .panic c, a, w => a.defers = D ∧ a.tmps[k]? = some p ∧ R c w
 | e, a, w => Q e a w
theorem PanicAs.put {D : List Deferred} {k : Nat} {p : Value} {R : List PanicEntry → World → Prop} {Q : Exit → Act → World → Prop} {dst : Option Nat} {v : Value} {c : List PanicEntry} {a : Act} {w : World} (hk : dst ≠ some k) (h : PanicAs D k p R Q (.panic c) (a.put dst v) w) : PanicAs D k p R Q (.panic c) a w := by
 cases dst with
 | none => exact h
 | some j =>
  obtain ⟨h1, h2, h3⟩ := h
  have hj : j ≠ k := fun e => hk (by rw [e])
  refine ⟨h1, ?_, h3⟩
  simp only [Act.put] at h2
  rw [Array.getElem?_setIfInBounds_ne hj] at h2
  exact h2
theorem PanicAs.normal {D : List Deferred} {k : Nat} {p : Value} {R : List PanicEntry → World → Prop} {Q : Exit → Act → World → Prop} {a : Act} {w : World} (h : Q .normal a w) : PanicAs D k p R Q .normal a w := h
theorem wp_region_panicAs {P : Program} {id : Nat} {ops : Array Oper} {b : Bool} {Q : Exit → Act → World → Prop} {a : Act} {w : World} (D : List Deferred) (k : Nat) (p : Value) (R : List PanicEntry → World → Prop)
  (hi : ∀ c a w, a.defers = D → a.tmps[k]? = some p → R c w → Q (.panic c) a w) (h : (Code.region id ops b).wp P (PanicAs D k p R Q) a w) : (Code.region id ops b).wp P Q a w :=
 Code.wp_mono (fun e a w h => by
  cases e with
  | panic c => exact hi c a w h.1 h.2.1 h.2.2
  | _ => exact h) h
theorem doorP (w W : World) (tm : Array Value) (B : Nat) (Z c x : Int) (hz : Z = c) (ht : tm[2]? = some (.pointer (some ⟨B, 0, none⟩))) (hB : w.heap.size ≤ B) (hc : W.cell? ⟨B, 0, none⟩ = some (.int .i64 x)) (hf : W.frozen? ⟨B, 0, none⟩ = false) (hb : Below w.heap.size w W) :
  Leaves Tryz.prog Tryz.f55 tm (fun e w' => e = .returned (.int .i64 Z) ∧ Below w.heap.size w w') [{ target := .fn (.func 94) #[.pointer (some ⟨B, 0, none⟩)], args := #[] }] (.panicking [{ v := refV c, recovered := false }]) W := by
 refine leaves_cons (f := 94) (args := #[.pointer (some ⟨B, 0, none⟩)]) (by simp) (by simp [go_sem]) ?_
 refine (catchSF_panicking ⟨B, 0, none⟩ x c [] W hc hf).mono ?_
 rintro e u' w2 ⟨rfl, rfl, w1, hb1, rfl⟩
 have hc1 : w1.cell? ⟨B, 0, none⟩ = some (.int .i64 x) := cK hb1 hc
 have hf1 : w1.frozen? ⟨B, 0, none⟩ = false := by rw [hb1.frozen (p := ⟨B, 0, none⟩) (wL W _ hc)]; exact hf
 have hB1 : Below w.heap.size w w1 := bS hb hb1
 subst hz
 refine ⟨.int .i64 Z, ?_, rfl, ?_⟩
 ·
  simp [results, Tryz.results55, go_sem, ht, hc1, hf1]
 ·
  (repeat (first | refine bset ?_ (by simp; omega) _ | refine bset ?_ (by simp) _ | refine bA ?_ _ | assumption))
theorem doorR (w W : World) (tm : Array Value) (B : Nat) (Z x : Int) (hz : Z = x) (ht : tm[2]? = some (.pointer (some ⟨B, 0, none⟩))) (hB : w.heap.size ≤ B) (hc : W.cell? ⟨B, 0, none⟩ = some (.int .i64 x)) (hb : Below w.heap.size w W) :
  Leaves Tryz.prog Tryz.f55 tm (fun e w' => e = .returned (.int .i64 Z) ∧ Below w.heap.size w w') [{ target := .fn (.func 94) #[.pointer (some ⟨B, 0, none⟩)], args := #[] }] .returning W := by
 refine leaves_cons (f := 94) (args := #[.pointer (some ⟨B, 0, none⟩)]) (by simp) (by simp [go_sem]) ?_
 refine (catchSF_idle ⟨B, 0, none⟩ W).mono ?_
 rintro e u' w2 ⟨rfl, rfl, hb1⟩
 have hc1 : w2.cell? ⟨B, 0, none⟩ = some (.int .i64 x) := cK hb1 hc
 have hB1 : Below w.heap.size w w2 := bS hb hb1
 subst hz
 refine ⟨.int .i64 Z, ?_, rfl, hB1⟩
 simp [results, Tryz.results55, go_sem, ht, hc1]
end Go.Proofs.YtndghenlapbaaaaGreat

/-
 ShardFault, the program's.
-/
namespace Go.Proofs.YtndghenlapbaaaaGreat
open Go.RowKit
variable [DecidableEq Rw] [Inhabited Rw] [DecidableEq Bal] [Inhabited Bal] [DecidableEq Ledg] [Inhabited Ledg] [DecidableEq Leg] [Inhabited Leg] [DecidableEq Cont] [Inhabited Cont] [DecidableEq LedgR] [Inhabited LedgR] [DecidableEq OutcR] [Inhabited OutcR] [DecidableEq Mrk] [Inhabited Mrk] [DecidableEq Shd] [Inhabited Shd] [DecidableEq ShdR] [Inhabited ShdR]
attribute [local go_sem ↓] Go.wp_at_zero Go.wp_at_succ

theorem conts_take {w : World} {a : Option Addr} {n c k : Nat} {xs : List Cont} (hx : contsR.V w (.slice a n c) xs) (hk : k ≤ n) : contsR.V w (.slice a k c) (xs.take k) := by
 obtain ⟨a', c', e, h1, h2, h3⟩ := hx
 simp only [Value.slice.injEq] at e
 obtain ⟨rfl, rfl, rfl⟩ := e
 refine ⟨a, c, by rw [List.length_take, Nat.min_eq_left hk], by rw [List.length_take]; omega, h2, fun i hi => ?_⟩
 rw [List.length_take] at hi
 have e : (xs.take k).getD i default = xs.getD i default := by simp [List.getD, List.getElem?_take, show i < k by omega]
 rw [e]
 exact h3 i (by omega)
theorem frz {w w' : World} {p : Addr} (hb : Below w.heap.size w w') (hp : p.block < w.heap.size) (h : w.frozen? p = false) : w'.frozen? p = false := by rw [hb.frozen hp]; exact h
theorem apartC_at {d : Shd} {k : Nat} (hk : k < d.held.length) : apartC d.idx (d.held.take k) (d.held.getD k default).legs = apartAt d k := by
 unfold apartC apartAt
 rw [apartB_range (by omega)]
 rfl
theorem listsF_ok {d : Shd} (h : listsF d = 0) : baseF d.idx d.bals = 0 ∧ LsOk d ∧ HeldOk d := by
 unfold listsF at h
 split at h
 ·
  rename_i h0
  split at h
  ·
   omega
  ·
   rename_i h1
   split at h
   ·
    rename_i h2
    split at h
    ·
     rename_i h3
     split at h
     ·
      rename_i h4
      exact ⟨h0, ⟨by omega, by omega, by omega, by omega, mrksOk_of h2, mrksOk_of h3⟩, heldOk_of h4⟩
     ·
      rename_i h4; exact absurd h h4
    ·
     rename_i h3; exact absurd h h3
   ·
    rename_i h2; exact absurd h h2
 ·
  rename_i h0; exact absurd h h0
set_option maxRecDepth 20000 in
set_option maxHeartbeats 8000000 in
theorem implShdF_any (x : Value) (d : Shd) (w : World) (hx : shdR.V w x d) :
  Calls Tryz.prog 55 #[x] w fun e w' => e = .returned (.int .i64 (shdF d)) ∧ Below w.heap.size w w' := by
 have HLi : Hid (∀ W, Below w.heap.size w W → Calls Tryz.prog 93 #[x] W fun e w' => e = .returned (.int .i64 (listsF d)) ∧ Below W.heap.size W w') := fun W hW => listsFault_any x d W (shdR.below hx hW)
 have HBo : Hid (∀ W, Below w.heap.size w W → baseF d.idx d.bals = 0 → Calls Tryz.prog 81 #[x] W fun e w' => ∃ b, e = .returned (.agg #[.int .i64 3, .map (some b)]) ∧ W.heap.size ≤ b ∧ Book w' b 54 (bookF (hereG d.idx d.bals)) ∧ Below W.heap.size W w') := fun W hW h0 => bookHere_any x d W (shdR.below hx hW) h0
 obtain ⟨u1, u2, u3, u4, u5, rfl, h1, h2, h3, h4, h5⟩ := hx
 have HX3 : Hid (∃ a c, u3 = .slice a d.held.length c ∧ d.held.length ≤ c ∧ c ≤ maxLen ∧ ∀ k, k < d.held.length → ∃ b o p q, a = some ⟨b, o, none⟩ ∧ w.cell? ⟨b, o + k * 2, none⟩ = some (.int .i64 (d.held.getD k default).id) ∧ w.cell? ⟨b, o + k * 2 + 1, none⟩ = some (.slice p (d.held.getD k default).legs.length q) ∧ contR.V w (.agg #[.int .i64 (d.held.getD k default).id, .slice p (d.held.getD k default).legs.length q]) (d.held.getD k default)) := conts_at h3
 obtain ⟨a1, c1, rfl⟩ := bals_form h1
 obtain ⟨a2, c2, rfl⟩ := mrks_form h2
 obtain ⟨a3, c3, rfl⟩ := conts_form h3
 obtain ⟨a4, c4, rfl⟩ := mrks_form h4
 obtain ⟨a5, c5, rfl⟩ := ints_form h5
 obtain ⟨_, _, e3, hc3, hm3, hx3⟩ := HX3.out
 simp only [Value.slice.injEq, true_and] at e3
 obtain ⟨rfl, rfl⟩ := e3
 unfold maxLen at hm3
 have HX : Hid (∀ k, k < d.held.length → ∃ b o p q, a3 = some ⟨b, o, none⟩ ∧ w.cell? ⟨b, o + k * 2, none⟩ = some (.int .i64 (d.held.getD k default).id) ∧ w.cell? ⟨b, o + k * 2 + 1, none⟩ = some (.slice p (d.held.getD k default).legs.length q) ∧ contR.V w (.agg #[.int .i64 (d.held.getD k default).id, .slice p (d.held.getD k default).legs.length q]) (d.held.getD k default)) := hx3
 have HAp : Hid (HeldOk d → ∀ k W id ul, k < d.held.length → Below w.heap.size w W → legsR.V W ul (d.held.getD k default).legs → Calls Tryz.prog 79 #[.int .i64 d.idx, .slice a3 k c3, .agg #[.int .i64 id, ul]] W (KeepE (apartAt d k) W)) := fun hh k W id ul hk hW hl => by
  rw [← apartC_at hk]
  exact keepApart_any d.idx id _ ul (d.held.take k) _ W (contsR.below (conts_take h3 (by omega)) hW) hl (by have := hh.len hk; omega)
 have HCo : Hid (HeldOk d → baseF d.idx d.bals = 0 → ∀ k W id ul b, k < d.held.length → legsR.V W ul (d.held.getD k default).legs → Book W b 54 (bookF (hereG d.idx d.bals)) → Calls Tryz.prog 80 #[.int .i64 d.idx, .agg #[.int .i64 3, .map (some b)], .agg #[.int .i64 id, ul]] W (KeepE (coverAt d k) W)) := fun hh h0 k W id ul b hk hl hb =>
  keepCovered_any d.idx id b ul d.bals _ W hb hl (by have := hh.len hk; omega) (base_idx h0).1 (base_idx h0).2 (hh.fault hk)
 have HD0 : Hid (¬ listsF d = 0 → shdF d = listsF d) := fun h => by unfold shdF; rw [if_neg h]
 have HD1 : Hid (listsF d = 0 → ∀ k, k < d.held.length → scanI (apartAt d) k = 0 → ¬ apartAt d k = 0 → shdF d = apartAt d k) := fun h k hk hs hc => by
  have h1 := scanI_hit hs hc _ hk
  unfold shdF keptF
  rw [if_pos h, if_neg (by rw [h1]; exact hc), h1]
 have HD2 : Hid (listsF d = 0 → scanI (apartAt d) d.held.length = 0 → ∀ k, k < d.held.length → scanI (coverAt d) k = 0 → ¬ coverAt d k = 0 → shdF d = coverAt d k) := fun h h0 k hk hs hc => by
  have h1 := scanI_hit hs hc _ hk
  unfold shdF keptF
  rw [if_pos h, if_pos h0, h1]
 have HD3 : Hid (listsF d = 0 → scanI (apartAt d) d.held.length = 0 → scanI (coverAt d) d.held.length = 0 → shdF d = 0) := fun h h0 h1 => by
  unfold shdF keptF
  rw [if_pos h, if_pos h0, h1]
 have HOk : Hid (listsF d = 0 → baseF d.idx d.bals = 0 ∧ LsOk d ∧ HeldOk d) := fun h => listsF_ok h
 clear h1 h2 h3 h4 h5 HX3 hx3
 generalize d.bals.length = n1 at *
 generalize d.votes.length = n2 at *
 generalize d.held.length = n3 at *
 generalize d.done.length = n4 at *
 generalize d.appl.length = n5 at *
 obtain ⟨Z, hZ⟩ : ∃ Z, Z = shdF d := ⟨_, rfl⟩
 rw [← hZ] at HD0 HD1 HD2 HD3 ⊢
 clear hZ
 generalize listsF d = lf at *
 have hmf : ∀ (fn : Fn) (first cap : Array Value) (w : World), (Instr.makeFunc fn first cap).run Tryz.prog w = .ok (.func fn first cap) w := fun _ _ _ _ => rfl
 go_enter_defers Tryz.func55, Tryz.ntmps55
 go_wp2_with fail
 refine (HLi.out _ (qBq)).mono ?_
 rintro e w1 ⟨rfl, hb1⟩
 have f1 := (bcell hb1).2
 have hB1 : Below w.heap.size w w1 := bS (qBq) hb1
 have hz1 := hb1.size
 simp at hz1
 have y0 : w1.cell? ⟨w.heap.size, 0, none⟩ = some (.int .i64 d.idx) := cK hb1 (by simp [go_sem])
 have y1 : w1.cell? ⟨w.heap.size, 1, none⟩ = some (.slice a1 n1 c1) := cK hb1 (by simp [go_sem])
 have y2 : w1.cell? ⟨w.heap.size, 2, none⟩ = some (.slice a2 n2 c2) := cK hb1 (by simp [go_sem])
 have y3 : w1.cell? ⟨w.heap.size, 3, none⟩ = some (.slice a3 n3 c3) := cK hb1 (by simp [go_sem])
 have y4 : w1.cell? ⟨w.heap.size, 4, none⟩ = some (.slice a4 n4 c4) := cK hb1 (by simp [go_sem])
 have y5 : w1.cell? ⟨w.heap.size, 5, none⟩ = some (.slice a5 n5 c5) := cK hb1 (by simp [go_sem])
 have r0 : w1.cell? ⟨w.heap.size + 1, 0, none⟩ = some (.int .i64 0) := cK hb1 (by simp [go_sem])
 have rf : w1.frozen? ⟨w.heap.size + 1, 0, none⟩ = false := by rw [f1 _ _ (by simp)]; simp [go_sem]
 clear hb1 f1 HLi
 by_cases hlf : lf = 0
 rotate_left
 ·
  have HC := HD0.out hlf
  have hlf' : (lf != 0) = true := by simp [hlf]
  clear HD0 HD1 HD2 HD3 HAp HCo HBo HX HOk
  go_wp2
  refine ⟨.int .i64 lf, by simp [results, Tryz.results55, go_sem, r0, rf], by rw [HC], ?_⟩
  (repeat (first | refine bset ?_ (by simp; omega) _ | refine bset ?_ (by simp) _ | refine bA ?_ _ | assumption))
 obtain ⟨h0, hls, hhk⟩ := HOk.out hlf
 have HD1' : Hid (∀ k, k < n3 → scanI (apartAt d) k = 0 → ¬ apartAt d k = 0 → Z = apartAt d k) := HD1.out hlf
 have HD2' : Hid (scanI (apartAt d) n3 = 0 → ∀ k, k < n3 → scanI (coverAt d) k = 0 → ¬ coverAt d k = 0 → Z = coverAt d k) := HD2.out hlf
 have HD3' : Hid (scanI (apartAt d) n3 = 0 → scanI (coverAt d) n3 = 0 → Z = 0) := HD3.out hlf
 have HAp' : Hid (∀ k W id ul, k < n3 → Below w.heap.size w W → legsR.V W ul (d.held.getD k default).legs → Calls Tryz.prog 79 #[.int .i64 d.idx, .slice a3 k c3, .agg #[.int .i64 id, ul]] W (KeepE (apartAt d k) W)) := HAp.out hhk
 have HCo' : Hid (∀ k W id ul b, k < n3 → legsR.V W ul (d.held.getD k default).legs → Book W b 54 (bookF (hereG d.idx d.bals)) → Calls Tryz.prog 80 #[.int .i64 d.idx, .agg #[.int .i64 3, .map (some b)], .agg #[.int .i64 id, ul]] W (KeepE (coverAt d k) W)) := HCo.out hhk h0
 have HBo' : Hid (∀ W, Below w.heap.size w W → Calls Tryz.prog 81 #[.agg #[.int .i64 d.idx, .slice a1 n1 c1, .slice a2 n2 c2, .slice a3 n3 c3, .slice a4 n4 c4, .slice a5 n5 c5]] W fun e w' => ∃ b, e = .returned (.agg #[.int .i64 3, .map (some b)]) ∧ W.heap.size ≤ b ∧ Book w' b 54 (bookF (hereG d.idx d.bals)) ∧ Below W.heap.size W w') := fun W hW => HBo.out W hW h0
 clear HD0 HD1 HD2 HD3 HAp HCo HBo HOk h0 hls hhk
 rw [hlf]
 clear hlf
 go_wp2
 obtain ⟨wq, hwq⟩ : ∃ wq, wq = w1.setCell ⟨w.heap.size + 1, 0, none⟩ (.int .i64 0) := ⟨_, rfl⟩
 have hBq : Below w.heap.size w wq := by rw [hwq]; (repeat (first | refine bset ?_ (by simp; omega) _ | refine bset ?_ (by simp) _ | refine bA ?_ _ | assumption))
 have zq : w.heap.size + 1 < wq.heap.size := by rw [hwq]; simp; omega
 replace y0 : wq.cell? ⟨w.heap.size, 0, none⟩ = some (.int .i64 d.idx) := by rw [hwq]; simp [go_sem, y0]
 replace y1 : wq.cell? ⟨w.heap.size, 1, none⟩ = some (.slice a1 n1 c1) := by rw [hwq]; simp [go_sem, y1]
 replace y2 : wq.cell? ⟨w.heap.size, 2, none⟩ = some (.slice a2 n2 c2) := by rw [hwq]; simp [go_sem, y2]
 replace y3 : wq.cell? ⟨w.heap.size, 3, none⟩ = some (.slice a3 n3 c3) := by rw [hwq]; simp [go_sem, y3]
 replace y4 : wq.cell? ⟨w.heap.size, 4, none⟩ = some (.slice a4 n4 c4) := by rw [hwq]; simp [go_sem, y4]
 replace y5 : wq.cell? ⟨w.heap.size, 5, none⟩ = some (.slice a5 n5 c5) := by rw [hwq]; simp [go_sem, y5]
 replace r0 : wq.cell? ⟨w.heap.size + 1, 0, none⟩ = some (.int .i64 0) := by rw [hwq]; simp [go_sem, r0]
 replace rf : wq.frozen? ⟨w.heap.size + 1, 0, none⟩ = false := by rw [hwq]; simp [go_sem, rf]
 rw [← hwq]
 clear hwq hB1 hz1
 try clear w1
 go_loopw [17] (fun i w' => ∃ k : Nat, k ≤ n3 ∧ i = .int .i64 k ∧ Hid (scanI (apartAt d) k = 0) ∧ Below wq.heap.size wq w') (fun i _ => n3 - (intOf i).toNat)
 case atStart => exact ⟨0, Nat.zero_le _, rfl, rfl, Below.refl _ _⟩
 case round =>
  obtain ⟨k, hk, rfl, HS, hbl⟩ := hrel
  have hBr : Below w.heap.size w wr := bS hBq hbl
  have zr := hbl.size
  replace y0 := cK hbl y0
  replace y1 := cK hbl y1
  replace y2 := cK hbl y2
  replace y3 := cK hbl y3
  replace y4 := cK hbl y4
  replace y5 := cK hbl y5
  replace r0 := cK hbl r0
  replace rf : wr.frozen? ⟨w.heap.size + 1, 0, none⟩ = false := by rw [hbl.frozen (p := ⟨w.heap.size + 1, 0, none⟩) zq]; exact rf
  by_cases hlt : k < n3
  ·
   obtain ⟨bx, ox, pp, qq, rfl, g0, g1, hV⟩ := HX.out k hlt
   obtain ⟨ul, hul, hvl⟩ := hV
   simp only [Value.agg.injEq, Array.mk.injEq, List.cons.injEq, and_true, true_and] at hul
   subst hul
   have HC1 : Hid (∀ W, Below wr.heap.size wr W → Calls Tryz.prog 79 #[.int .i64 d.idx, .slice (some ⟨bx, ox, none⟩) k c3, .agg #[.int .i64 (d.held.getD k default).id, .slice pp (d.held.getD k default).legs.length qq]] W (KeepE (apartAt d k) W)) := fun W hW => HAp'.out k W _ _ hlt (bS hBr hW) (legsR.below hvl (bS hBr hW))
   have HP : Hid (¬ apartAt d k = 0 → Z = apartAt d k) := fun h => HD1'.out k hlt HS.out h
   have HN : Hid (apartAt d k = 0 → scanI (apartAt d) (k + 1) = 0) := fun h => scanI_succ HS.out h
   clear hvl HS
   generalize (d.held.getD k default).legs.length = ll at *
   generalize (d.held.getD k default).id = qid at *
   generalize apartAt d k = ak at *
   replace g0 := cK hBr g0
   replace g1 := cK hBr g1
   have zb : bx < wr.heap.size := wL wr _ g0
   have hkc : k ≤ c3 := by omega
   have zz0 : w.heap.size < wr.heap.size := by omega
   go_wp2
   refine wp_region_panicAs [{ target := .fn (.func 94) #[.pointer (some ⟨w.heap.size + 1, 0, none⟩)], args := #[] }] 2 (.pointer (some ⟨w.heap.size + 1, 0, none⟩)) (fun c W => ∃ q, c = [{ v := refV q, recovered := false }] ∧ Z = q ∧ W.cell? ⟨w.heap.size + 1, 0, none⟩ = some (.int .i64 0) ∧ W.frozen? ⟨w.heap.size + 1, 0, none⟩ = false ∧ Below w.heap.size w W) ?_ ?_
   ·
    rintro c a W hd ht ⟨q, rfl, hz, hc, hf, hb⟩
    show Leaves Tryz.prog Tryz.f55 a.tmps _ a.defers (.panicking _) W
    rw [hd]
    exact doorP w W a.tmps _ Z q 0 hz ht (Nat.le_succ _) hc hf hb
   refine region_upto (fun W => Below wr.heap.size wr W ∧ W.cell? ⟨w.heap.size, 0, none⟩ = some (.int .i64 d.idx) ∧ W.cell? ⟨w.heap.size, 3, none⟩ = some (.slice (some ⟨bx, ox, none⟩) n3 c3) ∧ W.cell? ⟨wr.heap.size, 0, none⟩ = some (.int .i64 qid) ∧ W.cell? ⟨wr.heap.size, 1, none⟩ = some (.slice pp ll qq) ∧ W.cell? ⟨w.heap.size + 1, 0, none⟩ = some (.int .i64 0) ∧ W.frozen? ⟨w.heap.size + 1, 0, none⟩ = false) 8 (by kernel_rfl) ⟨qBq, cK (qBq) y0, cK (qBq) y3, by simp [go_sem], by simp [go_sem], cK (qBq) r0, frz (qBq) (show w.heap.size + 1 < wr.heap.size by omega) rf⟩ (fun hS => ?_)
   refine upto_takeN (i := 0) (v := ?_) rfl (by kernel_rfl) (by kernel_rfl) (by kernel_rfl) (by kernel_rfl) (fun _ _ _ => PanicAs.put (by decide)) (by rfl) hS ?_ ?_
   rotate_left
   ·
    intro wS hSw; (try dsimp only at hSw); go_simp; try with_reducible rfl
   try simp only [Act.put, jA, jB, jC, jD, jE, jF]
   refine upto_takeN (i := 1) (v := ?_) rfl (by kernel_rfl) (by kernel_rfl) (by kernel_rfl) (by kernel_rfl) (fun _ _ _ => PanicAs.put (by decide)) (by rfl) hS ?_ ?_
   rotate_left
   ·
    intro wS hSw; (try dsimp only at hSw); go_simp; try with_reducible rfl
   try simp only [Act.put, jA, jB, jC, jD, jE, jF]
   refine upto_takeN (i := 2) (v := ?_) rfl (by kernel_rfl) (by kernel_rfl) (by kernel_rfl) (by kernel_rfl) (fun _ _ _ => PanicAs.put (by decide)) (by rfl) hS ?_ ?_
   rotate_left
   ·
    intro wS hSw; (try dsimp only at hSw); go_simp; try with_reducible rfl
   try simp only [Act.put, jA, jB, jC, jD, jE, jF]
   refine upto_takeN (i := 3) (v := ?_) rfl (by kernel_rfl) (by kernel_rfl) (by kernel_rfl) (by kernel_rfl) (fun _ _ _ => PanicAs.put (by decide)) (by rfl) hS ?_ ?_
   rotate_left
   ·
    intro wS hSw; (try dsimp only at hSw); go_simp; try with_reducible rfl
   try simp only [Act.put, jA, jB, jC, jD, jE, jF]
   refine upto_takeN (i := 4) (v := ?_) rfl (by kernel_rfl) (by kernel_rfl) (by kernel_rfl) (by kernel_rfl) (fun _ _ _ => PanicAs.put (by decide)) (by rfl) hS ?_ ?_
   rotate_left
   ·
    intro wS hSw; (try dsimp only at hSw); go_simp; try with_reducible rfl
   try simp only [Act.put, jA, jB, jC, jD, jE, jF]
   refine upto_takeN (i := 5) (v := ?_) rfl (by kernel_rfl) (by kernel_rfl) (by kernel_rfl) (by kernel_rfl) (fun _ _ _ => PanicAs.put (by decide)) (by rfl) hS ?_ ?_
   rotate_left
   ·
    intro wS hSw; (try dsimp only at hSw); go_simp; try with_reducible rfl
   try simp only [Act.put, jA, jB, jC, jD, jE, jF]
   refine upto_takeN (i := 6) (v := ?_) rfl (by kernel_rfl) (by kernel_rfl) (by kernel_rfl) (by kernel_rfl) (fun _ _ _ => PanicAs.put (by decide)) (by rfl) hS ?_ ?_
   rotate_left
   ·
    intro wS hSw; (try dsimp only at hSw); go_simp; try with_reducible rfl
   try simp only [Act.put, jA, jB, jC, jD, jE, jF]
   refine upto_step (i := 7) (by kernel_rfl) rfl ?_
   intro K hK
   go_simp
   refine (HC1.out _ hS.1).mono ?_
   rintro e wz ⟨he, hbz⟩
   have hbz' : Below wr.heap.size wr wz := bS hS.1 hbz
   have zz : w.heap.size + 1 < wr.heap.size := by omega
   rcases he with ⟨h, rfl⟩ | ⟨h, rfl⟩
   rotate_left
   ·
    refine ⟨rfl, rfl, ak, rfl, HP.out h, cK hbz' r0, frz hbz' zz rf, bS hBr hbz'⟩
   refine hK _ _ (fun _ => ⟨hbz', cK hbz hS.2.1, cK hbz hS.2.2.1, cK hbz hS.2.2.2.1, cK hbz hS.2.2.2.2.1, cK hbz' r0, frz hbz' zz rf⟩) ?_
   clear hK K hS hbz
   try simp only [Act.put, jA, jB, jC, jD, jE, jF]
   refine upto_done (by kernel_rfl) ?_
   refine PanicAs.normal ?_
   go_wp2
   exact ⟨⟨k + 1, by omega, by go_num, HN.out h, bS hbl hbz'⟩, by simp [intOf]; omega⟩
  ·
   have hkn : k = n3 := by omega
   subst hkn
   have HP2 : Hid (∀ j, j < k → scanI (coverAt d) j = 0 → ¬ coverAt d j = 0 → Z = coverAt d j) := HD2'.out HS.out
   have HP3 : Hid (scanI (coverAt d) k = 0 → Z = 0) := HD3'.out HS.out
   clear HD1' HD2' HD3' HAp' HS
   go_wp2_with fail
   refine (HBo'.out _ hBr).mono ?_
   rintro e w3 ⟨b, rfl, hbb, hbk, hb3⟩
   have hB3 : Below w.heap.size w w3 := bS hBr hb3
   have zz : w.heap.size + 1 < wr.heap.size := by omega
   have z3 := hb3.size
   have zb : b < w3.heap.size := hbk.lt
   replace y0 := cK hb3 y0
   replace y1 := cK hb3 y1
   replace y2 := cK hb3 y2
   replace y3 := cK hb3 y3
   replace y4 := cK hb3 y4
   replace y5 := cK hb3 y5
   replace r0 := cK hb3 r0
   replace rf := frz hb3 zz rf
   have HBk : Hid (Book w3 b 54 (bookF (hereG d.idx d.bals))) := hbk
   have zw : w.heap.size < w3.heap.size := by omega
   have zw1 : w.heap.size + 1 < w3.heap.size := by omega
   clear hbk hb3 HBo' hbl hBr hBq
   go_wp2
   obtain ⟨w4, hw4⟩ : ∃ w4, w4 = w3.alloc (.cells #[.int .i64 3, .map (some b)] 115) := ⟨_, rfl⟩
   have hb4 : Below w3.heap.size w3 w4 := by rw [hw4]; (repeat (first | exact bR _ _ | assumption | refine bD ?_ | refine bA ?_ _ | refine bset ?_ (by simp; omega) _ | refine bset ?_ (by simp) _ | refine bS ?_ (by assumption)))
   have q0 : w4.cell? ⟨w3.heap.size, 0, none⟩ = some (.int .i64 3) := by rw [hw4]; simp [go_sem]
   have q1 : w4.cell? ⟨w3.heap.size, 1, none⟩ = some (.map (some b)) := by rw [hw4]; simp [go_sem]
   rw [← hw4]
   clear hw4
   have hB4 : Below w.heap.size w w4 := bS hB3 hb4
   have z4 : w.heap.size + 1 < w4.heap.size := by have := hb4.size; omega
   have HBk4 : Hid (Book w4 b 54 (bookF (hereG d.idx d.bals))) := HBk.out.below hb4
   replace y0 := cK hb4 y0
   replace y1 := cK hb4 y1
   replace y2 := cK hb4 y2
   replace y3 := cK hb4 y3
   replace y4 := cK hb4 y4
   replace y5 := cK hb4 y5
   replace r0 := cK hb4 r0
   replace rf := frz hb4 (show w.heap.size + 1 < w3.heap.size by omega) rf
   clear HBk
   go_loopw [36] (fun i w' => ∃ j : Nat, j ≤ k ∧ i = .int .i64 j ∧ Hid (scanI (coverAt d) j = 0) ∧ Below w4.heap.size w4 w') (fun i _ => k - (intOf i).toNat)
   case atStart => exact ⟨0, Nat.zero_le _, rfl, rfl, Below.refl _ _⟩
   case round =>
    rename_i wr0
    obtain ⟨j, hj, rfl, HS, hbl⟩ := hrel
    have hBr : Below w.heap.size w wr := bS hB4 hbl
    have zr := hbl.size
    replace y0 := cK hbl y0
    replace y1 := cK hbl y1
    replace y2 := cK hbl y2
    replace y3 := cK hbl y3
    replace y4 := cK hbl y4
    replace y5 := cK hbl y5
    replace r0 := cK hbl r0
    replace rf := frz hbl z4 rf
    replace q0 := cK hbl q0
    replace q1 := cK hbl q1
    have HBkr : Hid (Book wr b 54 (bookF (hereG d.idx d.bals))) := HBk4.out.below hbl
    by_cases hlt2 : j < k
    ·
     obtain ⟨bx, ox, pp, qq, rfl, g0, g1, hV⟩ := HX.out j hlt2
     obtain ⟨ul, hul, hvl⟩ := hV
     simp only [Value.agg.injEq, Array.mk.injEq, List.cons.injEq, and_true, true_and] at hul
     subst hul
     have HC1 : Hid (∀ W, Below wr.heap.size wr W → Calls Tryz.prog 80 #[.int .i64 d.idx, .agg #[.int .i64 3, .map (some b)], .agg #[.int .i64 (d.held.getD j default).id, .slice pp (d.held.getD j default).legs.length qq]] W (KeepE (coverAt d j) W)) := fun W hW => HCo'.out j W _ _ b hlt2 (legsR.below hvl (bS hBr hW)) (HBkr.out.below hW)
     have HP : Hid (¬ coverAt d j = 0 → Z = coverAt d j) := fun h => HP2.out j hlt2 HS.out h
     have HN : Hid (coverAt d j = 0 → scanI (coverAt d) (j + 1) = 0) := fun h => scanI_succ HS.out h
     clear hvl HS
     generalize (d.held.getD j default).legs.length = ll at *
     generalize (d.held.getD j default).id = qid at *
     generalize coverAt d j = ak at *
     replace g0 := cK hBr g0
     replace g1 := cK hBr g1
     have zb2 : bx < wr.heap.size := wL wr _ g0
     have zq3 : w3.heap.size < wr.heap.size := wL wr _ q0
     have zz2 : w.heap.size + 1 < wr.heap.size := by omega
     have zz3 : w.heap.size < wr.heap.size := by omega
     go_wp2_with fail
     refine (HC1.out _ (qBq)).mono ?_
     rintro e wz ⟨he, hbz⟩
     have hbz' : Below wr.heap.size wr wz := bS (qBq) hbz
     clear hbz
     rcases he with ⟨h, rfl⟩ | ⟨h, rfl⟩
     ·
      have HN2 : Hid (scanI (coverAt d) (j + 1) = 0) := HN.out h
      clear HN HP h
      go_wp2
      exact ⟨⟨j + 1, by omega, by go_num, HN2, bS hbl hbz'⟩, by simp [intOf]; omega⟩
     ·
      have hz := HP.out h
      exact doorP w wz _ _ Z ak 0 hz rfl (Nat.le_succ _) (cK hbz' r0) (frz hbz' zz2 rf) (bS hBr hbz')
    ·
     have hjn : j = k := by omega
     subst hjn
     have hz := HP3.out HS.out
     clear HP2 HP3 HS
     go_wp2
     refine doorR w _ _ (w.heap.size + 1) Z 0 hz rfl (Nat.le_succ _) (by simp [go_sem, r0, rf]) ?_
     (repeat (first | refine bset ?_ (by simp; omega) _ | refine bset ?_ (by simp) _ | refine bA ?_ _ | assumption))
end Go.Proofs.YtndghenlapbaaaaGreat

/-
 ShardFault, the document's.
-/
namespace Go.Proofs.YtndghenlapbaaaaGreat
open Go.RowKit
variable [DecidableEq Rw] [Inhabited Rw] [DecidableEq Bal] [Inhabited Bal] [DecidableEq Ledg] [Inhabited Ledg] [DecidableEq Leg] [Inhabited Leg] [DecidableEq Cont] [Inhabited Cont] [DecidableEq LedgR] [Inhabited LedgR] [DecidableEq OutcR] [Inhabited OutcR] [DecidableEq Mrk] [Inhabited Mrk] [DecidableEq Shd] [Inhabited Shd] [DecidableEq ShdR] [Inhabited ShdR]
attribute [local go_sem ↓] Go.wp_at_zero Go.wp_at_succ

theorem l10Base_any (i : Int) (x : Value) (xs : List Bal) (w : World) (hx : balsR.V w x xs) :
  Calls Tryz.prog 60 #[.int .i64 i, x] w fun e w' => e = .returned (.int .i64 (baseF i xs)) ∧ Below w.heap.size w w' := by
 have HB : Hid (∀ W, Below w.heap.size w W → Calls Tryz.prog 100 #[x] W fun e w' => e = .returned (.int .i64 (balFault xs)) ∧ Below W.heap.size W w') := fun W hW => specBalFault_any x xs W (balsR.below hx hW)
 obtain ⟨a, c, rfl⟩ := bals_form hx
 clear hx
 generalize xs.length = n at *
 unfold baseF
 cases h : inB i 0 2
 ·
  go_enter Tryz.func60, Tryz.ntmps60
  go_wp2_with (first | (go_at_call 53; refine (l1In_any _ _ _ _).mono ?_; rintro e w' ⟨rfl, rfl⟩; rw [h]))
  go_ret
  exact ⟨rfl, qBq⟩
 ·
  go_enter Tryz.func60, Tryz.ntmps60
  go_wp2_with (first | (go_at_call 53; refine (l1In_any _ _ _ _).mono ?_; rintro e w' ⟨rfl, rfl⟩; rw [h]) | (go_at_call 100; refine (HB.out _ (qBq)).mono ?_; rintro e w' ⟨rfl, hb1⟩))
  go_ret
  exact ⟨rfl, qBq⟩
set_option maxRecDepth 20000 in
set_option maxHeartbeats 8000000 in
theorem specShdF_any (x : Value) (d : Shd) (w : World) (hx : shdR.V w x d) :
  Calls Tryz.prog 25 #[x] w fun e w' => e = .returned (.int .i64 (shdF d)) ∧ Below w.heap.size w w' := by
 have HHd : Hid (∀ W, Below w.heap.size w W → BalsOk d.bals → Calls Tryz.prog 62 #[x] W fun e w' => e = .returned (.int .i64 (tailF d)) ∧ Below W.heap.size W w') := fun W hW hb => l10Held_any x d W (shdR.below hx hW) hb
 obtain ⟨u1, u2, u3, u4, u5, rfl, h1, h2, h3, h4, h5⟩ := hx
 have HBa : Hid (∀ W, Below w.heap.size w W → Calls Tryz.prog 60 #[.int .i64 d.idx, u1] W fun e w' => e = .returned (.int .i64 (baseF d.idx d.bals)) ∧ Below W.heap.size W w') := fun W hW => l10Base_any _ u1 _ W (balsR.below h1 hW)
 have HVo : Hid (∀ W, Below w.heap.size w W → Calls Tryz.prog 61 #[u2] W fun e w' => e = .returned (.int .i64 (mrkF d.votes)) ∧ Below W.heap.size W w') := fun W hW => l10Marks_any u2 _ W (mrksR.below h2 hW)
 have HDo : Hid (∀ W, Below w.heap.size w W → Calls Tryz.prog 61 #[u4] W fun e w' => e = .returned (.int .i64 (mrkF d.done)) ∧ Below W.heap.size W w') := fun W hW => l10Marks_any u4 _ W (mrksR.below h4 hW)
 obtain ⟨a1, c1, rfl⟩ := bals_form h1
 obtain ⟨a2, c2, rfl, hc2, hm2, _⟩ := h2
 obtain ⟨a3, c3, rfl, hc3, hm3, _⟩ := conts_at h3
 obtain ⟨a4, c4, rfl, hc4, hm4, _⟩ := h4
 obtain ⟨a5, c5, rfl, hc5, hm5, _⟩ := h5
 unfold maxLen at hm2 hm3 hm4 hm5
 have HD0 : Hid (¬ baseF d.idx d.bals = 0 → shdF d = baseF d.idx d.bals) := fun h => by unfold shdF listsF; rw [if_neg h, if_neg h]
 have HD1 : Hid (baseF d.idx d.bals = 0 → (100 < d.votes.length ∨ 100 < d.held.length ∨ 100 < d.done.length ∨ 100 < d.appl.length) → shdF d = 2) := fun h h1 => by unfold shdF listsF; rw [if_pos h, if_pos h1]; rfl
 have HD2 : Hid (baseF d.idx d.bals = 0 → ¬ (100 < d.votes.length ∨ 100 < d.held.length ∨ 100 < d.done.length ∨ 100 < d.appl.length) → ¬ mrkF d.votes = 0 → shdF d = mrkF d.votes) := fun h h1 h2 => by unfold shdF listsF; rw [if_pos h, if_neg h1, if_neg h2, if_neg h2]
 have HD3 : Hid (baseF d.idx d.bals = 0 → ¬ (100 < d.votes.length ∨ 100 < d.held.length ∨ 100 < d.done.length ∨ 100 < d.appl.length) → mrkF d.votes = 0 → ¬ mrkF d.done = 0 → shdF d = mrkF d.done) := fun h h1 h2 h3 => by unfold shdF listsF; rw [if_pos h, if_neg h1, if_pos h2, if_neg h3, if_neg h3]
 have HD4 : Hid (baseF d.idx d.bals = 0 → ¬ (100 < d.votes.length ∨ 100 < d.held.length ∨ 100 < d.done.length ∨ 100 < d.appl.length) → mrkF d.votes = 0 → mrkF d.done = 0 → shdF d = tailF d) := fun h h1 h2 h3 => shdF_tail h h1 h2 h3
 have HBO : Hid (baseF d.idx d.bals = 0 → BalsOk d.bals) := fun h => by
  unfold baseF at h
  split at h
  ·
   exact balsOk_of h
  ·
   omega
 generalize d.bals.length = n1 at *
 generalize d.votes.length = n2 at *
 generalize d.held.length = n3 at *
 generalize d.done.length = n4 at *
 generalize d.appl.length = n5 at *
 generalize tailF d = tf at *
 generalize mrkF d.votes = fv at *
 generalize mrkF d.done = fd at *
 generalize hbf : baseF d.idx d.bals = bf at *
 obtain ⟨Z, hZ⟩ : ∃ Z, Z = shdF d := ⟨_, rfl⟩
 rw [← hZ] at HD0 HD1 HD2 HD3 HD4 ⊢
 clear hZ hbf h1 h3
 go_enter Tryz.func25, Tryz.ntmps25
 go_wp2_with fail
 refine (HBa.out _ (qBq)).mono ?_
 rintro e w1 ⟨rfl, hb1⟩
 have y0 : w1.cell? ⟨w.heap.size, 0, none⟩ = some (.int .i64 d.idx) := cK hb1 (by simp [go_sem])
 have y1 : w1.cell? ⟨w.heap.size, 1, none⟩ = some (.slice a1 n1 c1) := cK hb1 (by simp [go_sem])
 have y2 : w1.cell? ⟨w.heap.size, 2, none⟩ = some (.slice a2 n2 c2) := cK hb1 (by simp [go_sem])
 have y3 : w1.cell? ⟨w.heap.size, 3, none⟩ = some (.slice a3 n3 c3) := cK hb1 (by simp [go_sem])
 have y4 : w1.cell? ⟨w.heap.size, 4, none⟩ = some (.slice a4 n4 c4) := cK hb1 (by simp [go_sem])
 have y5 : w1.cell? ⟨w.heap.size, 5, none⟩ = some (.slice a5 n5 c5) := cK hb1 (by simp [go_sem])
 have hB1 : Below w.heap.size w w1 := bS (qBq) hb1
 clear hb1 HBa
 by_cases hbf : bf = 0
 rotate_left
 ·
  have HC := HD0.out hbf
  have hbf' : (bf != 0) = true := by simp [hbf]
  go_wp2
  go_ret
  exact ⟨by rw [HC]; rfl, qBq⟩
 have HBO' := HBO.out hbf
 have HHd' : Hid (∀ W, Below w.heap.size w W → Calls Tryz.prog 62 #[.agg #[.int .i64 d.idx, .slice a1 n1 c1, .slice a2 n2 c2, .slice a3 n3 c3, .slice a4 n4 c4, .slice a5 n5 c5]] W fun e w' => e = .returned (.int .i64 tf) ∧ Below W.heap.size W w') := fun W hW => HHd.out W hW HBO'
 have HD1' : Hid ((100 < n2 ∨ 100 < n3 ∨ 100 < n4 ∨ 100 < n5) → Z = 2) := fun h => HD1.out hbf h
 have HD2' : Hid (¬ (100 < n2 ∨ 100 < n3 ∨ 100 < n4 ∨ 100 < n5) → ¬ fv = 0 → Z = fv) := fun h h2 => HD2.out hbf h h2
 have HD3' : Hid (¬ (100 < n2 ∨ 100 < n3 ∨ 100 < n4 ∨ 100 < n5) → fv = 0 → ¬ fd = 0 → Z = fd) := fun h h2 h3 => HD3.out hbf h h2 h3
 have HD4' : Hid (¬ (100 < n2 ∨ 100 < n3 ∨ 100 < n4 ∨ 100 < n5) → fv = 0 → fd = 0 → Z = tf) := fun h h2 h3 => HD4.out hbf h h2 h3
 rw [hbf]
 clear HD0 HD1 HD2 HD3 HD4 HBO HBO' HHd hbf
 by_cases m2 : 100 < n2
 ·
  have HC := HD1'.out (.inl m2)
  have m2' : (100 : Int) < n2 := by omega
  go_wp2
  go_ret
  exact ⟨by rw [HC]; rfl, qBq⟩
 have m2' : ¬ (100 : Int) < n2 := by omega
 by_cases m3 : 100 < n3
 ·
  have HC := HD1'.out (.inr (.inl m3))
  have m3' : (100 : Int) < n3 := by omega
  go_wp2
  go_ret
  exact ⟨by rw [HC]; rfl, qBq⟩
 have m3' : ¬ (100 : Int) < n3 := by omega
 by_cases m4 : 100 < n4
 ·
  have HC := HD1'.out (.inr (.inr (.inl m4)))
  have m4' : (100 : Int) < n4 := by omega
  go_wp2
  go_ret
  exact ⟨by rw [HC]; rfl, qBq⟩
 have m4' : ¬ (100 : Int) < n4 := by omega
 by_cases m5 : 100 < n5
 ·
  have HC := HD1'.out (.inr (.inr (.inr m5)))
  have m5' : (100 : Int) < n5 := by omega
  go_wp2
  go_ret
  exact ⟨by rw [HC]; rfl, qBq⟩
 have m5' : ¬ (100 : Int) < n5 := by omega
 have hmany : ¬ (100 < n2 ∨ 100 < n3 ∨ 100 < n4 ∨ 100 < n5) := by omega
 have HE2 : Hid (¬ fv = 0 → Z = fv) := fun h => HD2'.out hmany h
 have HE3 : Hid (fv = 0 → ¬ fd = 0 → Z = fd) := fun h h2 => HD3'.out hmany h h2
 have HE4 : Hid (fv = 0 → fd = 0 → Z = tf) := fun h h2 => HD4'.out hmany h h2
 clear HD1' HD2' HD3' HD4' hmany
 go_wp2_with fail
 refine (HVo.out _ hB1).mono ?_
 rintro e w2 ⟨rfl, hb2⟩
 have hB2 : Below w.heap.size w w2 := bS hB1 hb2
 replace y0 := cK hb2 y0
 replace y1 := cK hb2 y1
 replace y2 := cK hb2 y2
 replace y3 := cK hb2 y3
 replace y4 := cK hb2 y4
 replace y5 := cK hb2 y5
 clear hb2 HVo
 by_cases hfv : fv = 0
 rotate_left
 ·
  have HC := HE2.out hfv
  have hfv' : (fv != 0) = true := by simp [hfv]
  go_wp2
  go_ret
  exact ⟨by rw [HC]; rfl, qBq⟩
 rw [hfv]
 go_wp2_with fail
 refine (HDo.out _ hB2).mono ?_
 rintro e w3 ⟨rfl, hb3⟩
 have hB3 : Below w.heap.size w w3 := bS hB2 hb3
 replace y0 := cK hb3 y0
 replace y1 := cK hb3 y1
 replace y2 := cK hb3 y2
 replace y3 := cK hb3 y3
 replace y4 := cK hb3 y4
 replace y5 := cK hb3 y5
 clear hb3 HDo
 by_cases hfd : fd = 0
 rotate_left
 ·
  have HC := HE3.out hfv hfd
  have hfd' : (fd != 0) = true := by simp [hfd]
  go_wp2
  go_ret
  exact ⟨by rw [HC]; rfl, qBq⟩
 have HC : Hid (Z = tf) := HE4.out hfv hfd
 rw [hfd]
 clear HE2 HE3 HE4 hfv hfd
 go_wp2_with fail
 refine (HHd'.out _ hB3).mono ?_
 rintro e w4 ⟨rfl, hb4⟩
 go_wp2
 go_ret
 exact ⟨by rw [HC.out]; rfl, bS hB3 hb4⟩
end Go.Proofs.YtndghenlapbaaaaGreat

/-
 As RegS, where an operation may also write into what another one made, and takes it over (an append to what was just made).
-/
namespace Go.Proofs.YtndghenlapbaaaaGreat
open Go.RowKit

section
variable {P : Program} {ops : Array Oper} {Q : Exit → Act → World → Prop} {md : Region.Mode} {S : World → Prop} {t : Nat}

def Alive (L : List (Nat × Nat)) (cons : Nat → List Nat) (listed : Array Bool) (j : Nat) : Prop := listed.getD j true = true ∧ ∀ p ∈ L, listed.getD p.1 true = true → j ∉ cons p.1
def Taken (cons : Nat → List Nat) (Φ : Nat → Nat → Prop) (i b : Nat) : Prop := ∃ j ∈ cons i, Φ j b
def FIn (w0 w : World) (F : Nat → Prop) : Prop := ∀ b, F b → w0.heap.size ≤ b ∧ b < w.heap.size
def FApart (F F' : Nat → Prop) : Prop := ∀ b, F b → ¬ F' b
def StepC (P : Program) (md : Region.Mode) (ops : Array Oper) (Q : Exit → Act → World → Prop) (S : World → Prop) (L : List (Nat × Nat)) (cons : Nat → List Nat) (G : Nat → (Nat → Value) → (Nat → Prop) → World → Prop) (a0 : Act) (w0 : World) (p : Nat × Nat) : Prop :=
 ∃ o, ops[p.1]? = some o ∧ o.dst = some p.2 ∧ ∀ (y : Nat → Value) (w : World) (Φ : Nat → Nat → Prop), S w → Below w0.heap.size w0 w →
  (∀ q ∈ L, waitsFor md ops p.1 q.1 = true → (q.1 ∈ cons p.1 ∨ ∀ r ∈ L, q.1 ∉ cons r.1) → FIn w0 w (Φ q.1) ∧ G q.1 y (Φ q.1) w) →
  ∀ K : Act → World → Prop, (∀ v w' F', Mod (Taken cons Φ p.1) w w' → (∀ b, F' b → Taken cons Φ p.1 b ∨ (w.heap.size ≤ b ∧ b < w'.heap.size)) → G p.1 (updV y p.2 v) F' w' → K ((over a0 (L.map Prod.snd) y).put (some p.2) v) w') →
   Shut (if Region.wanted o (yielded ops (over a0 (L.map Prod.snd) y).tmps) = true then Oper.wp P o (over a0 (L.map Prod.snd) y) w K Q else K ((over a0 (L.map Prod.snd) y).put o.dst undef) w)
theorem upto_cons (L : List (Nat × Nat)) (cons : Nat → List Nat) (G : Nat → (Nat → Value) → (Nat → Prop) → World → Prop) {f : Nat} {listed : Array Bool} {a0 : Act} {w0 : World}
  (hrise : risesB md ops = true) (hsz : listed.size = ops.size) (hot : ∃ ot, ops[t]? = some ot)
  (hall : ∀ i, i < ops.size → listed.getD i true = false → i = t ∨ ∃ p ∈ L, p.1 = i)
  (hun : listed.getD t true = false ∧ ∀ p ∈ L, listed.getD p.1 true = false)
  (hno : (L.map Prod.fst).Nodup) (hnd : (L.map Prod.snd).Nodup) (htl : ∀ p ∈ L, p.1 ≠ t ∧ waitsFor md ops t p.1 = true) (hf : f = L.length + 1)
  (hcons : ∀ p ∈ L, ∀ j ∈ cons p.1, waitsFor md ops p.1 j = true ∧ ∃ q ∈ L, q.1 = j) (huniq : ∀ p ∈ L, ∀ r ∈ L, p.1 ≠ r.1 → ∀ j ∈ cons p.1, j ∉ cons r.1)
  (hS : S w0) (hSst : ∀ (F : Nat → Prop) (w w' : World), S w → Mod F w w' → (∀ b, F b → w0.heap.size ≤ b) → S w')
  (hG : ∀ p ∈ L, ∀ (y y' : Nat → Value) (F F' : Nat → Prop) (w w' : World), G p.1 y F w → FIn w0 w F → Mod F' w w' → FApart F' F → (∀ b, F' b → w0.heap.size ≤ b) → y' p.2 = y p.2 → (∀ q ∈ L, waitsFor md ops p.1 q.1 = true → y' q.2 = y q.2) → G p.1 y' F w')
  (hstep : ∀ p ∈ L, StepC P md ops Q S L cons G a0 w0 p)
  (hlast : ∃ o, ops[t]? = some o ∧ ∀ (y : Nat → Value) (w : World) (Φ : Nat → Nat → Prop), S w → Below w0.heap.size w0 w → (∀ q ∈ L, (∀ r ∈ L, q.1 ∉ cons r.1) → FIn w0 w (Φ q.1) ∧ G q.1 y (Φ q.1) w) → (∀ q ∈ L, ∀ r ∈ L, q.1 ≠ r.1 → (∀ p ∈ L, q.1 ∉ cons p.1) → (∀ p ∈ L, r.1 ∉ cons p.1) → FApart (Φ q.1) (Φ r.1)) →
   ∀ K : Act → World → Prop, (∀ a' w', Q .normal a' w' → K a' w') → Shut (if Region.wanted o (yielded ops (over a0 (L.map Prod.snd) y).tmps) = true then Oper.wp P o (over a0 (L.map Prod.snd) y) w K Q else K ((over a0 (L.map Prod.snd) y).put o.dst undef) w)) :
  wpUpto P md ops Q S t f listed a0 w0 := by
 have H : ∀ (n f : Nat) (listed : Array Bool) (y : Nat → Value) (w : World) (Φ : Nat → Nat → Prop),
   f = (L.filter fun p => !listed.getD p.1 true).length + 1 → listed.size = ops.size → listed.getD t true = false →
   (∀ i, i < ops.size → listed.getD i true = false → i = t ∨ ∃ p ∈ L, p.1 = i) →
   (∀ p ∈ L, listed.getD p.1 true = true → ∀ q ∈ L, waitsFor md ops p.1 q.1 = true → listed.getD q.1 true = true) →
   S w → Below w0.heap.size w0 w → (∀ q ∈ L, Alive L cons listed q.1 → FIn w0 w (Φ q.1) ∧ G q.1 y (Φ q.1) w) →
   (∀ q ∈ L, ∀ r ∈ L, q.1 ≠ r.1 → Alive L cons listed q.1 → Alive L cons listed r.1 → FApart (Φ q.1) (Φ r.1)) →
   f ≤ n → wpUpto P md ops Q S t f listed (over a0 (L.map Prod.snd) y) w := by
  intro n
  induction n with
  | zero => intro f listed y w Φ hf _ _ _ _ _ _ _ _ hn; omega
  | succ n ih =>
   intro f listed y w Φ hf hsz htun hall hdown hS hB hGs hAp hn
   obtain ⟨ot, hot⟩ := hot
   have htlt : t < ops.size := by
    rcases Nat.lt_or_ge t ops.size with h | h
    ·
     exact h
    ·
     rw [Array.getElem?_eq_none h] at hot; cases hot
   obtain ⟨g, rfl⟩ : ∃ g, f = g + 1 := ⟨_, hf⟩
   have hg : g = (L.filter fun p => !listed.getD p.1 true).length := by omega
   refine ⟨fun h => ?_, fun i hi' => ?_⟩
   ·
    obtain ⟨j, hj⟩ := ready_some hrise hsz (t + 1) t (by omega) htlt htun
    rw [h] at hj
    cases hj
   obtain ⟨hiun, o, hio, hdeps⟩ := mem_ready.1 hi'
   have hilt : i < ops.size := by
    rcases Nat.lt_or_ge i ops.size with h | h
    ·
     exact h
    ·
     rw [Array.getElem?_eq_none h] at hio; cases hio
   have hdep : ∀ k, k < ops.size → waitsFor md ops i k = true → listed.getD k true = true := by
    intro k hk hw
    unfold waitsFor at hw
    rw [hio] at hw
    obtain ⟨e, he, hb⟩ := Array.any_eq_true'.1 hw
    simp only [Bool.and_eq_true, beq_iff_eq] at hb
    have h1 := hdeps e he hb.1
    rw [hb.2] at h1
    have hk' : k < listed.size := by omega
    simp [hk'] at h1 ⊢
    exact h1
   have hLlt : ∀ p ∈ L, p.1 < ops.size := by
    intro p hp
    obtain ⟨o', ho', _⟩ := hstep p hp
    rcases Nat.lt_or_ge p.1 ops.size with h | h
    ·
     exact h
    ·
     rw [Array.getElem?_eq_none h] at ho'; cases ho'
   have key : ∀ K : Act → World → Prop, (if Region.wanted o (yielded ops (over a0 (L.map Prod.snd) y).tmps) = true then Oper.wp P o (over a0 (L.map Prod.snd) y) w K Q else K ((over a0 (L.map Prod.snd) y).put o.dst undef) w) → wpOp P ops Q i K (over a0 (L.map Prod.snd) y) w := by
    intro K h1
    unfold wpOp
    simp only [hio]
    split
    ·
     rename_i hw
     rw [if_pos hw] at h1
     exact .inl h1
    ·
     rename_i hw
     rw [if_neg hw] at h1
     exact h1
   refine key _ ?_
   by_cases hit : i = t
   ·
    subst hit
    have hl : ∀ p ∈ L, listed.getD p.1 true = true := fun p hp => hdep p.1 (hLlt p hp) (htl p hp).2
    obtain ⟨o2, ho2, hlst⟩ := hlast
    rw [hio] at ho2
    cases ho2
    refine (hlst y w Φ hS hB (fun q hq hc => hGs q hq ⟨hl q hq, fun p hp _ => hc p hp⟩) (fun q hq r hr hne h1 h2 => hAp q hq r hr hne ⟨hl q hq, fun p hp _ => h1 p hp⟩ ⟨hl r hr, fun p hp _ => h2 p hp⟩) _ (fun a' w' hq => ⟨fun h => absurd rfl h, upto_done ?_ hq⟩)).out
    rw [List.eq_nil_iff_forall_not_mem]
    intro j hj
    obtain ⟨hjun, oj, hjo, _⟩ := mem_ready.1 hj
    have hjl : j < ops.size := by
     rcases Nat.lt_or_ge j ops.size with h | h
     ·
      exact h
     ·
      rw [Array.getElem?_eq_none h] at hjo; cases hjo
    by_cases hji : i = j
    ·
     subst hji
     have hk' : i < listed.size := by omega
     simp [hk'] at hjun
    ·
     rw [getD_set_ne true hji] at hjun
     rcases hall j hjl hjun with h | ⟨p, hp, h⟩
     ·
      exact hji h.symm
     ·
      rw [← h, hl p hp] at hjun; cases hjun
   ·
    obtain ⟨p, hp, hpi⟩ := (hall i hilt hiun).resolve_left hit
    subst hpi
    obtain ⟨o', ho', hdst, hst⟩ := hstep p hp
    rw [hio] at ho'
    cases ho'
    -- what p takes over is there
    have hcal : ∀ q ∈ L, q.1 ∈ cons p.1 → Alive L cons listed q.1 := fun q hq hc => ⟨hdep q.1 (hLlt q hq) (hcons p hp _ hc).1, fun r hr hrl hcr => by
     by_cases e : r.1 = p.1
     ·
      rw [e, hiun] at hrl; cases hrl
     ·
      exact huniq p hp r hr (Ne.symm e) q.1 hc hcr⟩
    refine (hst y w Φ hS hB (fun q hq hw hc => ?_) _ (fun v w' F' hm hF' hGp => ⟨fun _ => hSst _ _ _ hS hm ?_, ?_⟩)).out
    ·
     rcases hc with hc | hc
     ·
      exact hGs q hq (hcal q hq hc)
     ·
      exact hGs q hq ⟨hdep q.1 (hLlt q hq) hw, fun r hr _ => hc r hr⟩
    ·
     rintro b ⟨j, hj, hb⟩
     obtain ⟨_, q, hq, rfl⟩ := hcons p hp j hj
     exact ((hGs q hq (hcal q hq hj)).1 b hb).1
    have hTk : ∀ b, Taken cons Φ p.1 b → w0.heap.size ≤ b ∧ b < w.heap.size := by
     rintro b ⟨j, hj, hb⟩
     obtain ⟨_, q, hq, rfl⟩ := hcons p hp j hj
     exact (hGs q hq (hcal q hq hj)).1 b hb
    rw [over_put (List.mem_map_of_mem hp) hnd]
    have hlt : p.1 < listed.size := by omega
    have hself' : (listed.setIfInBounds p.1 true).getD p.1 true = true := by simp [hlt]
    have hoth : ∀ j, p.1 ≠ j → (listed.setIfInBounds p.1 true).getD j true = listed.getD j true := fun j h => getD_set_ne true h
    have hinj : ∀ q ∈ L, q.1 = p.1 → q = p := fun q hq h => inj_fst L hno q hq p hp h
    have hinj2 : ∀ q ∈ L, q.2 = p.2 → q = p := fun q hq h => inj_snd L hnd q hq p hp h
    -- who is alive behind p, and is not p, was alive ahead of it, and is not taken over
    have hback : ∀ q ∈ L, q.1 ≠ p.1 → Alive L cons (listed.setIfInBounds p.1 true) q.1 → Alive L cons listed q.1 ∧ q.1 ∉ cons p.1 := fun q hq e ha => by
     refine ⟨⟨by rw [← hoth _ (Ne.symm e)]; exact ha.1, fun r hr hrl => ?_⟩, ha.2 p hp hself'⟩
     by_cases e2 : r.1 = p.1
     ·
      rw [e2, hiun] at hrl; cases hrl
     ·
      exact ha.2 r hr (by rw [hoth _ (Ne.symm e2)]; exact hrl)
    have hTq : ∀ q ∈ L, Alive L cons listed q.1 → q.1 ∉ cons p.1 → FApart (Taken cons Φ p.1) (Φ q.1) := by
     rintro q hq ha hn b ⟨j, hj, hb⟩
     obtain ⟨_, r, hr, rfl⟩ := hcons p hp j hj
     exact hAp r hr q hq (fun e => hn (e ▸ hj)) (hcal r hr hj) ha b hb
    refine ih g (listed.setIfInBounds p.1 true) (updV y p.2 v) w' (fun j => if j = p.1 then F' else Φ j) ?_ (by simpa using hsz) ?_ ?_ ?_ (hSst _ _ _ hS hm (fun b hb => (hTk b hb).1)) (hm.below hB hB.size (fun b hb => (hTk b hb).1)) ?_ ?_ (by omega)
    ·
     rw [hg]
     refine filter_less hno hp (by rw [hiun]; rfl) (by rw [hself']; rfl) (fun q hq hne => ?_)
     rw [hoth _ (fun c => hne (hinj q hq c.symm))]
    ·
     rw [hoth _ (fun h => hit h)]; exact htun
    ·
     intro j hj hju
     by_cases e : p.1 = j
     ·
      subst e; rw [hself'] at hju; cases hju
     ·
      rw [hoth _ e] at hju; exact hall j hj hju
    ·
     intro q hq hql r hr hw
     by_cases e : p.1 = r.1
     ·
      rw [← e]; exact hself'
     ·
      rw [hoth _ e]
      by_cases e2 : p.1 = q.1
      ·
       rw [← e2] at hw; exact hdep r.1 (hLlt r hr) hw
      ·
       rw [hoth _ e2] at hql; exact hdown q hq hql r hr hw
    ·
     intro q hq ha
     by_cases e : q.1 = p.1
     ·
      have e2 := hinj q hq e
      subst e2
      simp only [if_true]
      refine ⟨fun b hb => ?_, hGp⟩
      rcases hF' b hb with h | h
      ·
       have := hTk b h; have := hm.size; omega
      ·
       have := hB.size; omega
     ·
      obtain ⟨h1, h2⟩ := hback q hq e ha
      simp only [if_neg e]
      obtain ⟨g1, g2⟩ := hGs q hq h1
      refine ⟨fun b hb => ⟨(g1 b hb).1, Nat.lt_of_lt_of_le (g1 b hb).2 hm.size⟩, hG q hq y (updV y p.2 v) _ _ w w' g2 g1 hm (hTq q hq h1 h2) (fun b hb => (hTk b hb).1) ?_ ?_⟩
      ·
       exact if_neg (fun c => e (by rw [hinj2 q hq c]))
      ·
       intro r hr hw
       refine if_neg (fun c => ?_)
       have e3 := hinj2 r hr c
       subst e3
       rw [hdown q hq h1.1 _ hr hw] at hiun
       cases hiun
    ·
     intro q hq r hr hne hqa hra
     by_cases e : q.1 = p.1
     ·
      have e' : r.1 ≠ p.1 := fun c => hne (e.trans c.symm)
      obtain ⟨h1, h2⟩ := hback r hr e' hra
      simp only [if_pos e, if_neg e']
      intro b hb hb2
      rcases hF' b hb with h | h
      ·
       exact hTq r hr h1 h2 b h hb2
      ·
       have := ((hGs r hr h1).1 b hb2).2; omega
     ·
      obtain ⟨h1, h2⟩ := hback q hq e hqa
      by_cases e' : r.1 = p.1
      ·
       simp only [if_neg e, if_pos e']
       intro b hb hb2
       rcases hF' b hb2 with h | h
       ·
        exact hTq q hq h1 h2 b h hb
       ·
        have := ((hGs q hq h1).1 b hb).2; omega
      ·
       obtain ⟨h3, _⟩ := hback r hr e' hra
       simp only [if_neg e, if_neg e']
       exact hAp q hq r hr hne h1 h3
 have h0 := H f f listed (fun s => a0.tmps.getD s undef) w0 (fun _ _ => False) (by
  rw [hf, List.filter_eq_self.2 (fun p hp => by rw [hun.2 p hp]; rfl)]) hsz hun.1 hall (fun p hp h => by rw [hun.2 p hp] at h; cases h) hS (Below.refl _ _) (fun q hq h => by have h := h.1; rw [hun.2 q hq] at h; cases h) (fun q hq r hr hne h => by have h := h.1; rw [hun.2 q hq] at h; cases h) (Nat.le_refl _)
 rw [over_self] at h0
 exact h0
def checkC (md : Region.Mode) (ops : Array Oper) (listed : Array Bool) (t f : Nat) (L : List (Nat × Nat)) (cons : Nat → List Nat) : Bool :=
 checkS md ops listed t f L && (L.all fun p => (cons p.1).all fun j => waitsFor md ops p.1 j && L.any fun q => decide (q.1 = j)) && (L.all fun p => L.all fun r => decide (p.1 = r.1) || (cons p.1).all fun j => decide (j ∉ cons r.1))
theorem upto_cons' (L : List (Nat × Nat)) (cons : Nat → List Nat) (G : Nat → (Nat → Value) → (Nat → Prop) → World → Prop) {f : Nat} {listed : Array Bool} {a0 : Act} {w0 : World} (hc : checkC md ops listed t f L cons = true)
  (hS : S w0) (hSst : ∀ (F : Nat → Prop) (w w' : World), S w → Mod F w w' → (∀ b, F b → w0.heap.size ≤ b) → S w')
  (hG : ∀ p ∈ L, ∀ (y y' : Nat → Value) (F F' : Nat → Prop) (w w' : World), G p.1 y F w → FIn w0 w F → Mod F' w w' → FApart F' F → (∀ b, F' b → w0.heap.size ≤ b) → y' p.2 = y p.2 → (∀ q ∈ L, waitsFor md ops p.1 q.1 = true → y' q.2 = y q.2) → G p.1 y' F w')
  (hstep : ∀ p ∈ L, StepC P md ops Q S L cons G a0 w0 p)
  (hlast : ∃ o, ops[t]? = some o ∧ ∀ (y : Nat → Value) (w : World) (Φ : Nat → Nat → Prop), S w → Below w0.heap.size w0 w → (∀ q ∈ L, (∀ r ∈ L, q.1 ∉ cons r.1) → FIn w0 w (Φ q.1) ∧ G q.1 y (Φ q.1) w) → (∀ q ∈ L, ∀ r ∈ L, q.1 ≠ r.1 → (∀ p ∈ L, q.1 ∉ cons p.1) → (∀ p ∈ L, r.1 ∉ cons p.1) → FApart (Φ q.1) (Φ r.1)) →
   ∀ K : Act → World → Prop, (∀ a' w', Q .normal a' w' → K a' w') → Shut (if Region.wanted o (yielded ops (over a0 (L.map Prod.snd) y).tmps) = true then Oper.wp P o (over a0 (L.map Prod.snd) y) w K Q else K ((over a0 (L.map Prod.snd) y).put o.dst undef) w)) :
  wpUpto P md ops Q S t f listed a0 w0 := by
 unfold checkC checkS at hc
 simp only [Bool.and_eq_true, decide_eq_true_eq, List.all_eq_true, List.any_eq_true, Bool.or_eq_true, Bool.not_eq_true', List.mem_range] at hc
 obtain ⟨⟨⟨⟨⟨⟨⟨⟨⟨⟨⟨h1, h2⟩, h3⟩, h4⟩, h5⟩, h6⟩, h7⟩, h8⟩, h9⟩, h10⟩, h11⟩, h13⟩ := hc
 refine upto_cons L cons G h1 h2 (Option.isSome_iff_exists.1 h3) (fun i hi hu => ?_) ⟨h5, h6⟩ h7 h8 h9 h10 h11 (fun p hp r hr hne => (h13 p hp r hr).resolve_left hne) hS hSst hG hstep hlast
 rcases h4 i hi with (h | h) | h
 ·
  rw [hu] at h; cases h
 ·
  exact .inl h
 ·
  exact .inr h
end

end Go.Proofs.YtndghenlapbaaaaGreat

