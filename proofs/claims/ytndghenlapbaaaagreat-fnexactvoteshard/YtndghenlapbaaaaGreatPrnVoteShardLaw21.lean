import Derived.Test.YtndghenlapbaaaaGreatPrnVoteShardLaw20
import Derived.Test.YtndghenlapbaaaaGreatPrnVoteShardLaw2
import Derived.Test.YtndghenlapbaaaaGreatPrnVoteShardLaw16
import Derived.BigQuiet
import Derived.Deep.QuietTactic
import Derived.Deep.RegionHeld3
import Derived.Test.YtndghenlapbaaaaGreatShD
import Derived.Test.YtndghenlapbaaaaGreatPrnVoteShardLaw6
import Derived.Test.YtndghenlapbaaaaGreatPrnVoteShardLaw15
set_option linter.unusedSimpArgs false
set_option linter.unusedVariables false
set_option linter.unusedSectionVars false

/-
 The door of ShardFault: what is left when it panics with a refusal, or returns.
-/
namespace Go.Proofs.YtndghenlapbaaaaGreat
open Go.RowKit
variable [DecidableEq Rw] [Inhabited Rw] [DecidableEq Bal] [Inhabited Bal] [DecidableEq Ledg] [Inhabited Ledg] [DecidableEq Leg] [Inhabited Leg] [DecidableEq Cont] [Inhabited Cont] [DecidableEq LedgR] [Inhabited LedgR] [DecidableEq OutcR] [Inhabited OutcR] [DecidableEq Mrk] [Inhabited Mrk] [DecidableEq Shd] [Inhabited Shd] [DecidableEq ShdR] [Inhabited ShdR]
attribute [local go_sem ↓] Go.wp_at_zero Go.wp_at_succ

def PanicAs (D : List Deferred) (k : Nat) (p : Value) (R : List PanicEntry → World → Prop) (Q : Exit → Act → World → Prop) : Exit → Act → World → Prop
 | .panic c, a, w => a.defers = D ∧ a.tmps[k]? = some p ∧ R c w
 | e, a, w => Q e a w
theorem PanicAs.put {D : List Deferred} {k : Nat} {p : Value} {R : List PanicEntry → World → Prop} {Q : Exit → Act → World → Prop} {dst : Option Nat} {v : Value} {c : List PanicEntry} {a : Act} {w : World} (hk : dst ≠ some k) (h : PanicAs D k p R Q (.panic c) (a.put dst v) w) : PanicAs D k p R Q (.panic c) a w := by
 cases dst with
 | none => exact h
 | some j =>
  obtain ⟨h1, h2, h3⟩ := h
  have hj : j ≠ k := fun e => hk (by rw [e])
  refine ⟨h1, ?_, h3⟩
  simp only [Act.put] at h2
  rw [Array.getElem?_setIfInBounds_ne hj] at h2
  exact h2
theorem PanicAs.normal {D : List Deferred} {k : Nat} {p : Value} {R : List PanicEntry → World → Prop} {Q : Exit → Act → World → Prop} {a : Act} {w : World} (h : Q .normal a w) : PanicAs D k p R Q .normal a w := h
theorem wp_region_panicAs {P : Program} {id : Nat} {ops : Array Oper} {b : Bool} {Q : Exit → Act → World → Prop} {a : Act} {w : World} (D : List Deferred) (k : Nat) (p : Value) (R : List PanicEntry → World → Prop)
  (hi : ∀ c a w, a.defers = D → a.tmps[k]? = some p → R c w → Q (.panic c) a w) (h : (Code.region id ops b).wp P (PanicAs D k p R Q) a w) : (Code.region id ops b).wp P Q a w :=
 Code.wp_mono (fun e a w h => by
  cases e with
  | panic c => exact hi c a w h.1 h.2.1 h.2.2
  | _ => exact h) h
theorem doorP (w W : World) (tm : Array Value) (B : Nat) (Z c x : Int) (hz : Z = c) (ht : tm[2]? = some (.pointer (some ⟨B, 0, none⟩))) (hB : w.heap.size ≤ B) (hc : W.cell? ⟨B, 0, none⟩ = some (.int .i64 x)) (hf : W.frozen? ⟨B, 0, none⟩ = false) (hb : Below w.heap.size w W) :
  Leaves Tryz.prog Tryz.f55 tm (fun e w' => e = .returned (.int .i64 Z) ∧ Below w.heap.size w w') [{ target := .fn (.func 94) #[.pointer (some ⟨B, 0, none⟩)], args := #[] }] (.panicking [{ v := refV c, recovered := false }]) W := by
 refine leaves_cons (f := 94) (args := #[.pointer (some ⟨B, 0, none⟩)]) (by simp) (by simp [go_sem]) ?_
 refine (catchSF_panicking ⟨B, 0, none⟩ x c [] W hc hf).mono ?_
 rintro e u' w2 ⟨rfl, rfl, w1, hb1, rfl⟩
 have hc1 : w1.cell? ⟨B, 0, none⟩ = some (.int .i64 x) := cK hb1 hc
 have hf1 : w1.frozen? ⟨B, 0, none⟩ = false := by rw [hb1.frozen (p := ⟨B, 0, none⟩) (wL W _ hc)]; exact hf
 have hB1 : Below w.heap.size w w1 := bS hb hb1
 subst hz
 refine ⟨.int .i64 Z, ?_, rfl, ?_⟩
 ·
  simp [results, Tryz.results55, go_sem, ht, hc1, hf1]
 ·
  (repeat (first | refine bset ?_ (by simp; omega) _ | refine bset ?_ (by simp) _ | refine bA ?_ _ | assumption))
theorem doorR (w W : World) (tm : Array Value) (B : Nat) (Z x : Int) (hz : Z = x) (ht : tm[2]? = some (.pointer (some ⟨B, 0, none⟩))) (hB : w.heap.size ≤ B) (hc : W.cell? ⟨B, 0, none⟩ = some (.int .i64 x)) (hb : Below w.heap.size w W) :
  Leaves Tryz.prog Tryz.f55 tm (fun e w' => e = .returned (.int .i64 Z) ∧ Below w.heap.size w w') [{ target := .fn (.func 94) #[.pointer (some ⟨B, 0, none⟩)], args := #[] }] .returning W := by
 refine leaves_cons (f := 94) (args := #[.pointer (some ⟨B, 0, none⟩)]) (by simp) (by simp [go_sem]) ?_
 refine (catchSF_idle ⟨B, 0, none⟩ W).mono ?_
 rintro e u' w2 ⟨rfl, rfl, hb1⟩
 have hc1 : w2.cell? ⟨B, 0, none⟩ = some (.int .i64 x) := cK hb1 hc
 have hB1 : Below w.heap.size w w2 := bS hb hb1
 subst hz
 refine ⟨.int .i64 Z, ?_, rfl, hB1⟩
 simp [results, Tryz.results55, go_sem, ht, hc1]
end Go.Proofs.YtndghenlapbaaaaGreat

/-
 ShardFault, the program's.
-/
namespace Go.Proofs.YtndghenlapbaaaaGreat
open Go.RowKit
variable [DecidableEq Rw] [Inhabited Rw] [DecidableEq Bal] [Inhabited Bal] [DecidableEq Ledg] [Inhabited Ledg] [DecidableEq Leg] [Inhabited Leg] [DecidableEq Cont] [Inhabited Cont] [DecidableEq LedgR] [Inhabited LedgR] [DecidableEq OutcR] [Inhabited OutcR] [DecidableEq Mrk] [Inhabited Mrk] [DecidableEq Shd] [Inhabited Shd] [DecidableEq ShdR] [Inhabited ShdR]
attribute [local go_sem ↓] Go.wp_at_zero Go.wp_at_succ

theorem conts_take {w : World} {a : Option Addr} {n c k : Nat} {xs : List Cont} (hx : contsR.V w (.slice a n c) xs) (hk : k ≤ n) : contsR.V w (.slice a k c) (xs.take k) := by
 obtain ⟨a', c', e, h1, h2, h3⟩ := hx
 simp only [Value.slice.injEq] at e
 obtain ⟨rfl, rfl, rfl⟩ := e
 refine ⟨a, c, by rw [List.length_take, Nat.min_eq_left hk], by rw [List.length_take]; omega, h2, fun i hi => ?_⟩
 rw [List.length_take] at hi
 have e : (xs.take k).getD i default = xs.getD i default := by simp [List.getD, List.getElem?_take, show i < k by omega]
 rw [e]
 exact h3 i (by omega)
theorem frz {w w' : World} {p : Addr} (hb : Below w.heap.size w w') (hp : p.block < w.heap.size) (h : w.frozen? p = false) : w'.frozen? p = false := by rw [hb.frozen hp]; exact h
theorem apartC_at {d : Shd} {k : Nat} (hk : k < d.held.length) : apartC d.idx (d.held.take k) (d.held.getD k default).legs = apartAt d k := by
 unfold apartC apartAt
 rw [apartB_range (by omega)]
 rfl
theorem listsF_ok {d : Shd} (h : listsF d = 0) : baseF d.idx d.bals = 0 ∧ LsOk d ∧ HeldOk d := by
 unfold listsF at h
 split at h
 ·
  rename_i h0
  split at h
  ·
   omega
  ·
   rename_i h1
   split at h
   ·
    rename_i h2
    split at h
    ·
     rename_i h3
     split at h
     ·
      rename_i h4
      exact ⟨h0, ⟨by omega, by omega, by omega, by omega, mrksOk_of h2, mrksOk_of h3⟩, heldOk_of h4⟩
     ·
      rename_i h4; exact absurd h h4
    ·
     rename_i h3; exact absurd h h3
   ·
    rename_i h2; exact absurd h h2
 ·
  rename_i h0; exact absurd h h0
set_option maxRecDepth 20000 in
set_option maxHeartbeats 8000000 in
theorem implShdF_any (x : Value) (d : Shd) (w : World) (hx : shdR.V w x d) :
  Calls Tryz.prog 55 #[x] w fun e w' => e = .returned (.int .i64 (shdF d)) ∧ Below w.heap.size w w' := by
 have HLi : Hid (∀ W, Below w.heap.size w W → Calls Tryz.prog 93 #[x] W fun e w' => e = .returned (.int .i64 (listsF d)) ∧ Below W.heap.size W w') := fun W hW => listsFault_any x d W (shdR.below hx hW)
 have HBo : Hid (∀ W, Below w.heap.size w W → baseF d.idx d.bals = 0 → Calls Tryz.prog 81 #[x] W fun e w' => ∃ b, e = .returned (.agg #[.int .i64 3, .map (some b)]) ∧ W.heap.size ≤ b ∧ Book w' b 54 (bookF (hereG d.idx d.bals)) ∧ Below W.heap.size W w') := fun W hW h0 => bookHere_any x d W (shdR.below hx hW) h0
 obtain ⟨u1, u2, u3, u4, u5, rfl, h1, h2, h3, h4, h5⟩ := hx
 have HX3 : Hid (∃ a c, u3 = .slice a d.held.length c ∧ d.held.length ≤ c ∧ c ≤ maxLen ∧ ∀ k, k < d.held.length → ∃ b o p q, a = some ⟨b, o, none⟩ ∧ w.cell? ⟨b, o + k * 2, none⟩ = some (.int .i64 (d.held.getD k default).id) ∧ w.cell? ⟨b, o + k * 2 + 1, none⟩ = some (.slice p (d.held.getD k default).legs.length q) ∧ contR.V w (.agg #[.int .i64 (d.held.getD k default).id, .slice p (d.held.getD k default).legs.length q]) (d.held.getD k default)) := conts_at h3
 obtain ⟨a1, c1, rfl⟩ := bals_form h1
 obtain ⟨a2, c2, rfl⟩ := mrks_form h2
 obtain ⟨a3, c3, rfl⟩ := conts_form h3
 obtain ⟨a4, c4, rfl⟩ := mrks_form h4
 obtain ⟨a5, c5, rfl⟩ := ints_form h5
 obtain ⟨_, _, e3, hc3, hm3, hx3⟩ := HX3.out
 simp only [Value.slice.injEq, true_and] at e3
 obtain ⟨rfl, rfl⟩ := e3
 unfold maxLen at hm3
 have HX : Hid (∀ k, k < d.held.length → ∃ b o p q, a3 = some ⟨b, o, none⟩ ∧ w.cell? ⟨b, o + k * 2, none⟩ = some (.int .i64 (d.held.getD k default).id) ∧ w.cell? ⟨b, o + k * 2 + 1, none⟩ = some (.slice p (d.held.getD k default).legs.length q) ∧ contR.V w (.agg #[.int .i64 (d.held.getD k default).id, .slice p (d.held.getD k default).legs.length q]) (d.held.getD k default)) := hx3
 have HAp : Hid (HeldOk d → ∀ k W id ul, k < d.held.length → Below w.heap.size w W → legsR.V W ul (d.held.getD k default).legs → Calls Tryz.prog 79 #[.int .i64 d.idx, .slice a3 k c3, .agg #[.int .i64 id, ul]] W (KeepE (apartAt d k) W)) := fun hh k W id ul hk hW hl => by
  rw [← apartC_at hk]
  exact keepApart_any d.idx id _ ul (d.held.take k) _ W (contsR.below (conts_take h3 (by omega)) hW) hl (by have := hh.len hk; omega)
 have HCo : Hid (HeldOk d → baseF d.idx d.bals = 0 → ∀ k W id ul b, k < d.held.length → legsR.V W ul (d.held.getD k default).legs → Book W b 54 (bookF (hereG d.idx d.bals)) → Calls Tryz.prog 80 #[.int .i64 d.idx, .agg #[.int .i64 3, .map (some b)], .agg #[.int .i64 id, ul]] W (KeepE (coverAt d k) W)) := fun hh h0 k W id ul b hk hl hb =>
  keepCovered_any d.idx id b ul d.bals _ W hb hl (by have := hh.len hk; omega) (base_idx h0).1 (base_idx h0).2 (hh.fault hk)
 have HD0 : Hid (¬ listsF d = 0 → shdF d = listsF d) := fun h => by unfold shdF; rw [if_neg h]
 have HD1 : Hid (listsF d = 0 → ∀ k, k < d.held.length → scanI (apartAt d) k = 0 → ¬ apartAt d k = 0 → shdF d = apartAt d k) := fun h k hk hs hc => by
  have h1 := scanI_hit hs hc _ hk
  unfold shdF keptF
  rw [if_pos h, if_neg (by rw [h1]; exact hc), h1]
 have HD2 : Hid (listsF d = 0 → scanI (apartAt d) d.held.length = 0 → ∀ k, k < d.held.length → scanI (coverAt d) k = 0 → ¬ coverAt d k = 0 → shdF d = coverAt d k) := fun h h0 k hk hs hc => by
  have h1 := scanI_hit hs hc _ hk
  unfold shdF keptF
  rw [if_pos h, if_pos h0, h1]
 have HD3 : Hid (listsF d = 0 → scanI (apartAt d) d.held.length = 0 → scanI (coverAt d) d.held.length = 0 → shdF d = 0) := fun h h0 h1 => by
  unfold shdF keptF
  rw [if_pos h, if_pos h0, h1]
 have HOk : Hid (listsF d = 0 → baseF d.idx d.bals = 0 ∧ LsOk d ∧ HeldOk d) := fun h => listsF_ok h
 clear h1 h2 h3 h4 h5 HX3 hx3
 generalize d.bals.length = n1 at *
 generalize d.votes.length = n2 at *
 generalize d.held.length = n3 at *
 generalize d.done.length = n4 at *
 generalize d.appl.length = n5 at *
 obtain ⟨Z, hZ⟩ : ∃ Z, Z = shdF d := ⟨_, rfl⟩
 rw [← hZ] at HD0 HD1 HD2 HD3 ⊢
 clear hZ
 generalize listsF d = lf at *
 have hmf : ∀ (fn : Fn) (first cap : Array Value) (w : World), (Instr.makeFunc fn first cap).run Tryz.prog w = .ok (.func fn first cap) w := fun _ _ _ _ => rfl
 go_enter_defers Tryz.func55, Tryz.ntmps55
 go_wp2_with fail
 refine (HLi.out _ (qBq)).mono ?_
 rintro e w1 ⟨rfl, hb1⟩
 have f1 := (bcell hb1).2
 have hB1 : Below w.heap.size w w1 := bS (qBq) hb1
 have hz1 := hb1.size
 simp at hz1
 have y0 : w1.cell? ⟨w.heap.size, 0, none⟩ = some (.int .i64 d.idx) := cK hb1 (by simp [go_sem])
 have y1 : w1.cell? ⟨w.heap.size, 1, none⟩ = some (.slice a1 n1 c1) := cK hb1 (by simp [go_sem])
 have y2 : w1.cell? ⟨w.heap.size, 2, none⟩ = some (.slice a2 n2 c2) := cK hb1 (by simp [go_sem])
 have y3 : w1.cell? ⟨w.heap.size, 3, none⟩ = some (.slice a3 n3 c3) := cK hb1 (by simp [go_sem])
 have y4 : w1.cell? ⟨w.heap.size, 4, none⟩ = some (.slice a4 n4 c4) := cK hb1 (by simp [go_sem])
 have y5 : w1.cell? ⟨w.heap.size, 5, none⟩ = some (.slice a5 n5 c5) := cK hb1 (by simp [go_sem])
 have r0 : w1.cell? ⟨w.heap.size + 1, 0, none⟩ = some (.int .i64 0) := cK hb1 (by simp [go_sem])
 have rf : w1.frozen? ⟨w.heap.size + 1, 0, none⟩ = false := by rw [f1 _ _ (by simp)]; simp [go_sem]
 clear hb1 f1 HLi
 by_cases hlf : lf = 0
 rotate_left
 ·
  have HC := HD0.out hlf
  have hlf' : (lf != 0) = true := by simp [hlf]
  clear HD0 HD1 HD2 HD3 HAp HCo HBo HX HOk
  go_wp2
  refine ⟨.int .i64 lf, by simp [results, Tryz.results55, go_sem, r0, rf], by rw [HC], ?_⟩
  (repeat (first | refine bset ?_ (by simp; omega) _ | refine bset ?_ (by simp) _ | refine bA ?_ _ | assumption))
 obtain ⟨h0, hls, hhk⟩ := HOk.out hlf
 have HD1' : Hid (∀ k, k < n3 → scanI (apartAt d) k = 0 → ¬ apartAt d k = 0 → Z = apartAt d k) := HD1.out hlf
 have HD2' : Hid (scanI (apartAt d) n3 = 0 → ∀ k, k < n3 → scanI (coverAt d) k = 0 → ¬ coverAt d k = 0 → Z = coverAt d k) := HD2.out hlf
 have HD3' : Hid (scanI (apartAt d) n3 = 0 → scanI (coverAt d) n3 = 0 → Z = 0) := HD3.out hlf
 have HAp' : Hid (∀ k W id ul, k < n3 → Below w.heap.size w W → legsR.V W ul (d.held.getD k default).legs → Calls Tryz.prog 79 #[.int .i64 d.idx, .slice a3 k c3, .agg #[.int .i64 id, ul]] W (KeepE (apartAt d k) W)) := HAp.out hhk
 have HCo' : Hid (∀ k W id ul b, k < n3 → legsR.V W ul (d.held.getD k default).legs → Book W b 54 (bookF (hereG d.idx d.bals)) → Calls Tryz.prog 80 #[.int .i64 d.idx, .agg #[.int .i64 3, .map (some b)], .agg #[.int .i64 id, ul]] W (KeepE (coverAt d k) W)) := HCo.out hhk h0
 have HBo' : Hid (∀ W, Below w.heap.size w W → Calls Tryz.prog 81 #[.agg #[.int .i64 d.idx, .slice a1 n1 c1, .slice a2 n2 c2, .slice a3 n3 c3, .slice a4 n4 c4, .slice a5 n5 c5]] W fun e w' => ∃ b, e = .returned (.agg #[.int .i64 3, .map (some b)]) ∧ W.heap.size ≤ b ∧ Book w' b 54 (bookF (hereG d.idx d.bals)) ∧ Below W.heap.size W w') := fun W hW => HBo.out W hW h0
 clear HD0 HD1 HD2 HD3 HAp HCo HBo HOk h0 hls hhk
 rw [hlf]
 clear hlf
 go_wp2
 obtain ⟨wq, hwq⟩ : ∃ wq, wq = w1.setCell ⟨w.heap.size + 1, 0, none⟩ (.int .i64 0) := ⟨_, rfl⟩
 have hBq : Below w.heap.size w wq := by rw [hwq]; (repeat (first | refine bset ?_ (by simp; omega) _ | refine bset ?_ (by simp) _ | refine bA ?_ _ | assumption))
 have zq : w.heap.size + 1 < wq.heap.size := by rw [hwq]; simp; omega
 replace y0 : wq.cell? ⟨w.heap.size, 0, none⟩ = some (.int .i64 d.idx) := by rw [hwq]; simp [go_sem, y0]
 replace y1 : wq.cell? ⟨w.heap.size, 1, none⟩ = some (.slice a1 n1 c1) := by rw [hwq]; simp [go_sem, y1]
 replace y2 : wq.cell? ⟨w.heap.size, 2, none⟩ = some (.slice a2 n2 c2) := by rw [hwq]; simp [go_sem, y2]
 replace y3 : wq.cell? ⟨w.heap.size, 3, none⟩ = some (.slice a3 n3 c3) := by rw [hwq]; simp [go_sem, y3]
 replace y4 : wq.cell? ⟨w.heap.size, 4, none⟩ = some (.slice a4 n4 c4) := by rw [hwq]; simp [go_sem, y4]
 replace y5 : wq.cell? ⟨w.heap.size, 5, none⟩ = some (.slice a5 n5 c5) := by rw [hwq]; simp [go_sem, y5]
 replace r0 : wq.cell? ⟨w.heap.size + 1, 0, none⟩ = some (.int .i64 0) := by rw [hwq]; simp [go_sem, r0]
 replace rf : wq.frozen? ⟨w.heap.size + 1, 0, none⟩ = false := by rw [hwq]; simp [go_sem, rf]
 rw [← hwq]
 clear hwq hB1 hz1
 try clear w1
 go_loopw [17] (fun i w' => ∃ k : Nat, k ≤ n3 ∧ i = .int .i64 k ∧ Hid (scanI (apartAt d) k = 0) ∧ Below wq.heap.size wq w') (fun i _ => n3 - (intOf i).toNat)
 case atStart => exact ⟨0, Nat.zero_le _, rfl, rfl, Below.refl _ _⟩
 case round =>
  obtain ⟨k, hk, rfl, HS, hbl⟩ := hrel
  have hBr : Below w.heap.size w wr := bS hBq hbl
  have zr := hbl.size
  replace y0 := cK hbl y0
  replace y1 := cK hbl y1
  replace y2 := cK hbl y2
  replace y3 := cK hbl y3
  replace y4 := cK hbl y4
  replace y5 := cK hbl y5
  replace r0 := cK hbl r0
  replace rf : wr.frozen? ⟨w.heap.size + 1, 0, none⟩ = false := by rw [hbl.frozen (p := ⟨w.heap.size + 1, 0, none⟩) zq]; exact rf
  by_cases hlt : k < n3
  ·
   obtain ⟨bx, ox, pp, qq, rfl, g0, g1, hV⟩ := HX.out k hlt
   obtain ⟨ul, hul, hvl⟩ := hV
   simp only [Value.agg.injEq, Array.mk.injEq, List.cons.injEq, and_true, true_and] at hul
   subst hul
   have HC1 : Hid (∀ W, Below wr.heap.size wr W → Calls Tryz.prog 79 #[.int .i64 d.idx, .slice (some ⟨bx, ox, none⟩) k c3, .agg #[.int .i64 (d.held.getD k default).id, .slice pp (d.held.getD k default).legs.length qq]] W (KeepE (apartAt d k) W)) := fun W hW => HAp'.out k W _ _ hlt (bS hBr hW) (legsR.below hvl (bS hBr hW))
   have HP : Hid (¬ apartAt d k = 0 → Z = apartAt d k) := fun h => HD1'.out k hlt HS.out h
   have HN : Hid (apartAt d k = 0 → scanI (apartAt d) (k + 1) = 0) := fun h => scanI_succ HS.out h
   clear hvl HS
   generalize (d.held.getD k default).legs.length = ll at *
   generalize (d.held.getD k default).id = qid at *
   generalize apartAt d k = ak at *
   replace g0 := cK hBr g0
   replace g1 := cK hBr g1
   have zb : bx < wr.heap.size := wL wr _ g0
   have hkc : k ≤ c3 := by omega
   have zz0 : w.heap.size < wr.heap.size := by omega
   go_wp2
   refine wp_region_panicAs [{ target := .fn (.func 94) #[.pointer (some ⟨w.heap.size + 1, 0, none⟩)], args := #[] }] 2 (.pointer (some ⟨w.heap.size + 1, 0, none⟩)) (fun c W => ∃ q, c = [{ v := refV q, recovered := false }] ∧ Z = q ∧ W.cell? ⟨w.heap.size + 1, 0, none⟩ = some (.int .i64 0) ∧ W.frozen? ⟨w.heap.size + 1, 0, none⟩ = false ∧ Below w.heap.size w W) ?_ ?_
   ·
    rintro c a W hd ht ⟨q, rfl, hz, hc, hf, hb⟩
    show Leaves Tryz.prog Tryz.f55 a.tmps _ a.defers (.panicking _) W
    rw [hd]
    exact doorP w W a.tmps _ Z q 0 hz ht (Nat.le_succ _) hc hf hb
   refine region_upto (fun W => Below wr.heap.size wr W ∧ W.cell? ⟨w.heap.size, 0, none⟩ = some (.int .i64 d.idx) ∧ W.cell? ⟨w.heap.size, 3, none⟩ = some (.slice (some ⟨bx, ox, none⟩) n3 c3) ∧ W.cell? ⟨wr.heap.size, 0, none⟩ = some (.int .i64 qid) ∧ W.cell? ⟨wr.heap.size, 1, none⟩ = some (.slice pp ll qq) ∧ W.cell? ⟨w.heap.size + 1, 0, none⟩ = some (.int .i64 0) ∧ W.frozen? ⟨w.heap.size + 1, 0, none⟩ = false) 8 (by kernel_rfl) ⟨qBq, cK (qBq) y0, cK (qBq) y3, by simp [go_sem], by simp [go_sem], cK (qBq) r0, frz (qBq) (show w.heap.size + 1 < wr.heap.size by omega) rf⟩ (fun hS => ?_)
   refine upto_takeN (i := 0) (v := ?_) rfl (by kernel_rfl) (by kernel_rfl) (by kernel_rfl) (by kernel_rfl) (fun _ _ _ => PanicAs.put (by decide)) (by rfl) hS ?_ ?_
   rotate_left
   ·
    intro wS hSw; (try dsimp only at hSw); go_simp; try with_reducible rfl
   try simp only [Act.put, jA, jB, jC, jD, jE, jF]
   refine upto_takeN (i := 1) (v := ?_) rfl (by kernel_rfl) (by kernel_rfl) (by kernel_rfl) (by kernel_rfl) (fun _ _ _ => PanicAs.put (by decide)) (by rfl) hS ?_ ?_
   rotate_left
   ·
    intro wS hSw; (try dsimp only at hSw); go_simp; try with_reducible rfl
   try simp only [Act.put, jA, jB, jC, jD, jE, jF]
   refine upto_takeN (i := 2) (v := ?_) rfl (by kernel_rfl) (by kernel_rfl) (by kernel_rfl) (by kernel_rfl) (fun _ _ _ => PanicAs.put (by decide)) (by rfl) hS ?_ ?_
   rotate_left
   ·
    intro wS hSw; (try dsimp only at hSw); go_simp; try with_reducible rfl
   try simp only [Act.put, jA, jB, jC, jD, jE, jF]
   refine upto_takeN (i := 3) (v := ?_) rfl (by kernel_rfl) (by kernel_rfl) (by kernel_rfl) (by kernel_rfl) (fun _ _ _ => PanicAs.put (by decide)) (by rfl) hS ?_ ?_
   rotate_left
   ·
    intro wS hSw; (try dsimp only at hSw); go_simp; try with_reducible rfl
   try simp only [Act.put, jA, jB, jC, jD, jE, jF]
   refine upto_takeN (i := 4) (v := ?_) rfl (by kernel_rfl) (by kernel_rfl) (by kernel_rfl) (by kernel_rfl) (fun _ _ _ => PanicAs.put (by decide)) (by rfl) hS ?_ ?_
   rotate_left
   ·
    intro wS hSw; (try dsimp only at hSw); go_simp; try with_reducible rfl
   try simp only [Act.put, jA, jB, jC, jD, jE, jF]
   refine upto_takeN (i := 5) (v := ?_) rfl (by kernel_rfl) (by kernel_rfl) (by kernel_rfl) (by kernel_rfl) (fun _ _ _ => PanicAs.put (by decide)) (by rfl) hS ?_ ?_
   rotate_left
   ·
    intro wS hSw; (try dsimp only at hSw); go_simp; try with_reducible rfl
   try simp only [Act.put, jA, jB, jC, jD, jE, jF]
   refine upto_takeN (i := 6) (v := ?_) rfl (by kernel_rfl) (by kernel_rfl) (by kernel_rfl) (by kernel_rfl) (fun _ _ _ => PanicAs.put (by decide)) (by rfl) hS ?_ ?_
   rotate_left
   ·
    intro wS hSw; (try dsimp only at hSw); go_simp; try with_reducible rfl
   try simp only [Act.put, jA, jB, jC, jD, jE, jF]
   refine upto_step (i := 7) (by kernel_rfl) rfl ?_
   intro K hK
   go_simp
   refine (HC1.out _ hS.1).mono ?_
   rintro e wz ⟨he, hbz⟩
   have hbz' : Below wr.heap.size wr wz := bS hS.1 hbz
   have zz : w.heap.size + 1 < wr.heap.size := by omega
   rcases he with ⟨h, rfl⟩ | ⟨h, rfl⟩
   rotate_left
   ·
    refine ⟨rfl, rfl, ak, rfl, HP.out h, cK hbz' r0, frz hbz' zz rf, bS hBr hbz'⟩
   refine hK _ _ (fun _ => ⟨hbz', cK hbz hS.2.1, cK hbz hS.2.2.1, cK hbz hS.2.2.2.1, cK hbz hS.2.2.2.2.1, cK hbz' r0, frz hbz' zz rf⟩) ?_
   clear hK K hS hbz
   try simp only [Act.put, jA, jB, jC, jD, jE, jF]
   refine upto_done (by kernel_rfl) ?_
   refine PanicAs.normal ?_
   go_wp2
   exact ⟨⟨k + 1, by omega, by go_num, HN.out h, bS hbl hbz'⟩, by simp [intOf]; omega⟩
  ·
   have hkn : k = n3 := by omega
   subst hkn
   have HP2 : Hid (∀ j, j < k → scanI (coverAt d) j = 0 → ¬ coverAt d j = 0 → Z = coverAt d j) := HD2'.out HS.out
   have HP3 : Hid (scanI (coverAt d) k = 0 → Z = 0) := HD3'.out HS.out
   clear HD1' HD2' HD3' HAp' HS
   go_wp2_with fail
   refine (HBo'.out _ hBr).mono ?_
   rintro e w3 ⟨b, rfl, hbb, hbk, hb3⟩
   have hB3 : Below w.heap.size w w3 := bS hBr hb3
   have zz : w.heap.size + 1 < wr.heap.size := by omega
   have z3 := hb3.size
   have zb : b < w3.heap.size := hbk.lt
   replace y0 := cK hb3 y0
   replace y1 := cK hb3 y1
   replace y2 := cK hb3 y2
   replace y3 := cK hb3 y3
   replace y4 := cK hb3 y4
   replace y5 := cK hb3 y5
   replace r0 := cK hb3 r0
   replace rf := frz hb3 zz rf
   have HBk : Hid (Book w3 b 54 (bookF (hereG d.idx d.bals))) := hbk
   have zw : w.heap.size < w3.heap.size := by omega
   have zw1 : w.heap.size + 1 < w3.heap.size := by omega
   clear hbk hb3 HBo' hbl hBr hBq
   go_wp2
   obtain ⟨w4, hw4⟩ : ∃ w4, w4 = w3.alloc (.cells #[.int .i64 3, .map (some b)] 115) := ⟨_, rfl⟩
   have hb4 : Below w3.heap.size w3 w4 := by rw [hw4]; (repeat (first | exact bR _ _ | assumption | refine bD ?_ | refine bA ?_ _ | refine bset ?_ (by simp; omega) _ | refine bset ?_ (by simp) _ | refine bS ?_ (by assumption)))
   have q0 : w4.cell? ⟨w3.heap.size, 0, none⟩ = some (.int .i64 3) := by rw [hw4]; simp [go_sem]
   have q1 : w4.cell? ⟨w3.heap.size, 1, none⟩ = some (.map (some b)) := by rw [hw4]; simp [go_sem]
   rw [← hw4]
   clear hw4
   have hB4 : Below w.heap.size w w4 := bS hB3 hb4
   have z4 : w.heap.size + 1 < w4.heap.size := by have := hb4.size; omega
   have HBk4 : Hid (Book w4 b 54 (bookF (hereG d.idx d.bals))) := HBk.out.below hb4
   replace y0 := cK hb4 y0
   replace y1 := cK hb4 y1
   replace y2 := cK hb4 y2
   replace y3 := cK hb4 y3
   replace y4 := cK hb4 y4
   replace y5 := cK hb4 y5
   replace r0 := cK hb4 r0
   replace rf := frz hb4 (show w.heap.size + 1 < w3.heap.size by omega) rf
   clear HBk
   go_loopw [36] (fun i w' => ∃ j : Nat, j ≤ k ∧ i = .int .i64 j ∧ Hid (scanI (coverAt d) j = 0) ∧ Below w4.heap.size w4 w') (fun i _ => k - (intOf i).toNat)
   case atStart => exact ⟨0, Nat.zero_le _, rfl, rfl, Below.refl _ _⟩
   case round =>
    rename_i wr0
    obtain ⟨j, hj, rfl, HS, hbl⟩ := hrel
    have hBr : Below w.heap.size w wr := bS hB4 hbl
    have zr := hbl.size
    replace y0 := cK hbl y0
    replace y1 := cK hbl y1
    replace y2 := cK hbl y2
    replace y3 := cK hbl y3
    replace y4 := cK hbl y4
    replace y5 := cK hbl y5
    replace r0 := cK hbl r0
    replace rf := frz hbl z4 rf
    replace q0 := cK hbl q0
    replace q1 := cK hbl q1
    have HBkr : Hid (Book wr b 54 (bookF (hereG d.idx d.bals))) := HBk4.out.below hbl
    by_cases hlt2 : j < k
    ·
     obtain ⟨bx, ox, pp, qq, rfl, g0, g1, hV⟩ := HX.out j hlt2
     obtain ⟨ul, hul, hvl⟩ := hV
     simp only [Value.agg.injEq, Array.mk.injEq, List.cons.injEq, and_true, true_and] at hul
     subst hul
     have HC1 : Hid (∀ W, Below wr.heap.size wr W → Calls Tryz.prog 80 #[.int .i64 d.idx, .agg #[.int .i64 3, .map (some b)], .agg #[.int .i64 (d.held.getD j default).id, .slice pp (d.held.getD j default).legs.length qq]] W (KeepE (coverAt d j) W)) := fun W hW => HCo'.out j W _ _ b hlt2 (legsR.below hvl (bS hBr hW)) (HBkr.out.below hW)
     have HP : Hid (¬ coverAt d j = 0 → Z = coverAt d j) := fun h => HP2.out j hlt2 HS.out h
     have HN : Hid (coverAt d j = 0 → scanI (coverAt d) (j + 1) = 0) := fun h => scanI_succ HS.out h
     clear hvl HS
     generalize (d.held.getD j default).legs.length = ll at *
     generalize (d.held.getD j default).id = qid at *
     generalize coverAt d j = ak at *
     replace g0 := cK hBr g0
     replace g1 := cK hBr g1
     have zb2 : bx < wr.heap.size := wL wr _ g0
     have zq3 : w3.heap.size < wr.heap.size := wL wr _ q0
     have zz2 : w.heap.size + 1 < wr.heap.size := by omega
     have zz3 : w.heap.size < wr.heap.size := by omega
     go_wp2_with fail
     refine (HC1.out _ (qBq)).mono ?_
     rintro e wz ⟨he, hbz⟩
     have hbz' : Below wr.heap.size wr wz := bS (qBq) hbz
     clear hbz
     rcases he with ⟨h, rfl⟩ | ⟨h, rfl⟩
     ·
      have HN2 : Hid (scanI (coverAt d) (j + 1) = 0) := HN.out h
      clear HN HP h
      go_wp2
      exact ⟨⟨j + 1, by omega, by go_num, HN2, bS hbl hbz'⟩, by simp [intOf]; omega⟩
     ·
      have hz := HP.out h
      exact doorP w wz _ _ Z ak 0 hz rfl (Nat.le_succ _) (cK hbz' r0) (frz hbz' zz2 rf) (bS hBr hbz')
    ·
     have hjn : j = k := by omega
     subst hjn
     have hz := HP3.out HS.out
     clear HP2 HP3 HS
     go_wp2
     refine doorR w _ _ (w.heap.size + 1) Z 0 hz rfl (Nat.le_succ _) (by simp [go_sem, r0, rf]) ?_
     (repeat (first | refine bset ?_ (by simp; omega) _ | refine bset ?_ (by simp) _ | refine bA ?_ _ | assumption))
end Go.Proofs.YtndghenlapbaaaaGreat

/-
 ShardFault, the document's.
-/
namespace Go.Proofs.YtndghenlapbaaaaGreat
open Go.RowKit
variable [DecidableEq Rw] [Inhabited Rw] [DecidableEq Bal] [Inhabited Bal] [DecidableEq Ledg] [Inhabited Ledg] [DecidableEq Leg] [Inhabited Leg] [DecidableEq Cont] [Inhabited Cont] [DecidableEq LedgR] [Inhabited LedgR] [DecidableEq OutcR] [Inhabited OutcR] [DecidableEq Mrk] [Inhabited Mrk] [DecidableEq Shd] [Inhabited Shd] [DecidableEq ShdR] [Inhabited ShdR]
attribute [local go_sem ↓] Go.wp_at_zero Go.wp_at_succ

theorem l10Base_any (i : Int) (x : Value) (xs : List Bal) (w : World) (hx : balsR.V w x xs) :
  Calls Tryz.prog 60 #[.int .i64 i, x] w fun e w' => e = .returned (.int .i64 (baseF i xs)) ∧ Below w.heap.size w w' := by
 have HB : Hid (∀ W, Below w.heap.size w W → Calls Tryz.prog 100 #[x] W fun e w' => e = .returned (.int .i64 (balFault xs)) ∧ Below W.heap.size W w') := fun W hW => specBalFault_any x xs W (balsR.below hx hW)
 obtain ⟨a, c, rfl⟩ := bals_form hx
 clear hx
 generalize xs.length = n at *
 unfold baseF
 cases h : inB i 0 2
 ·
  go_enter Tryz.func60, Tryz.ntmps60
  go_wp2_with (first | (go_at_call 53; refine (l1In_any _ _ _ _).mono ?_; rintro e w' ⟨rfl, rfl⟩; rw [h]))
  go_ret
  exact ⟨rfl, qBq⟩
 ·
  go_enter Tryz.func60, Tryz.ntmps60
  go_wp2_with (first | (go_at_call 53; refine (l1In_any _ _ _ _).mono ?_; rintro e w' ⟨rfl, rfl⟩; rw [h]) | (go_at_call 100; refine (HB.out _ (qBq)).mono ?_; rintro e w' ⟨rfl, hb1⟩))
  go_ret
  exact ⟨rfl, qBq⟩
set_option maxRecDepth 20000 in
set_option maxHeartbeats 8000000 in
theorem specShdF_any (x : Value) (d : Shd) (w : World) (hx : shdR.V w x d) :
  Calls Tryz.prog 25 #[x] w fun e w' => e = .returned (.int .i64 (shdF d)) ∧ Below w.heap.size w w' := by
 have HHd : Hid (∀ W, Below w.heap.size w W → BalsOk d.bals → Calls Tryz.prog 62 #[x] W fun e w' => e = .returned (.int .i64 (tailF d)) ∧ Below W.heap.size W w') := fun W hW hb => l10Held_any x d W (shdR.below hx hW) hb
 obtain ⟨u1, u2, u3, u4, u5, rfl, h1, h2, h3, h4, h5⟩ := hx
 have HBa : Hid (∀ W, Below w.heap.size w W → Calls Tryz.prog 60 #[.int .i64 d.idx, u1] W fun e w' => e = .returned (.int .i64 (baseF d.idx d.bals)) ∧ Below W.heap.size W w') := fun W hW => l10Base_any _ u1 _ W (balsR.below h1 hW)
 have HVo : Hid (∀ W, Below w.heap.size w W → Calls Tryz.prog 61 #[u2] W fun e w' => e = .returned (.int .i64 (mrkF d.votes)) ∧ Below W.heap.size W w') := fun W hW => l10Marks_any u2 _ W (mrksR.below h2 hW)
 have HDo : Hid (∀ W, Below w.heap.size w W → Calls Tryz.prog 61 #[u4] W fun e w' => e = .returned (.int .i64 (mrkF d.done)) ∧ Below W.heap.size W w') := fun W hW => l10Marks_any u4 _ W (mrksR.below h4 hW)
 obtain ⟨a1, c1, rfl⟩ := bals_form h1
 obtain ⟨a2, c2, rfl, hc2, hm2, _⟩ := h2
 obtain ⟨a3, c3, rfl, hc3, hm3, _⟩ := conts_at h3
 obtain ⟨a4, c4, rfl, hc4, hm4, _⟩ := h4
 obtain ⟨a5, c5, rfl, hc5, hm5, _⟩ := h5
 unfold maxLen at hm2 hm3 hm4 hm5
 have HD0 : Hid (¬ baseF d.idx d.bals = 0 → shdF d = baseF d.idx d.bals) := fun h => by unfold shdF listsF; rw [if_neg h, if_neg h]
 have HD1 : Hid (baseF d.idx d.bals = 0 → (100 < d.votes.length ∨ 100 < d.held.length ∨ 100 < d.done.length ∨ 100 < d.appl.length) → shdF d = 2) := fun h h1 => by unfold shdF listsF; rw [if_pos h, if_pos h1]; rfl
 have HD2 : Hid (baseF d.idx d.bals = 0 → ¬ (100 < d.votes.length ∨ 100 < d.held.length ∨ 100 < d.done.length ∨ 100 < d.appl.length) → ¬ mrkF d.votes = 0 → shdF d = mrkF d.votes) := fun h h1 h2 => by unfold shdF listsF; rw [if_pos h, if_neg h1, if_neg h2, if_neg h2]
 have HD3 : Hid (baseF d.idx d.bals = 0 → ¬ (100 < d.votes.length ∨ 100 < d.held.length ∨ 100 < d.done.length ∨ 100 < d.appl.length) → mrkF d.votes = 0 → ¬ mrkF d.done = 0 → shdF d = mrkF d.done) := fun h h1 h2 h3 => by unfold shdF listsF; rw [if_pos h, if_neg h1, if_pos h2, if_neg h3, if_neg h3]
 have HD4 : Hid (baseF d.idx d.bals = 0 → ¬ (100 < d.votes.length ∨ 100 < d.held.length ∨ 100 < d.done.length ∨ 100 < d.appl.length) → mrkF d.votes = 0 → mrkF d.done = 0 → shdF d = tailF d) := fun h h1 h2 h3 => shdF_tail h h1 h2 h3
 have HBO : Hid (baseF d.idx d.bals = 0 → BalsOk d.bals) := fun h => by
  unfold baseF at h
  split at h
  ·
   exact balsOk_of h
  ·
   omega
 generalize d.bals.length = n1 at *
 generalize d.votes.length = n2 at *
 generalize d.held.length = n3 at *
 generalize d.done.length = n4 at *
 generalize d.appl.length = n5 at *
 generalize tailF d = tf at *
 generalize mrkF d.votes = fv at *
 generalize mrkF d.done = fd at *
 generalize hbf : baseF d.idx d.bals = bf at *
 obtain ⟨Z, hZ⟩ : ∃ Z, Z = shdF d := ⟨_, rfl⟩
 rw [← hZ] at HD0 HD1 HD2 HD3 HD4 ⊢
 clear hZ hbf h1 h3
 go_enter Tryz.func25, Tryz.ntmps25
 go_wp2_with fail
 refine (HBa.out _ (qBq)).mono ?_
 rintro e w1 ⟨rfl, hb1⟩
 have y0 : w1.cell? ⟨w.heap.size, 0, none⟩ = some (.int .i64 d.idx) := cK hb1 (by simp [go_sem])
 have y1 : w1.cell? ⟨w.heap.size, 1, none⟩ = some (.slice a1 n1 c1) := cK hb1 (by simp [go_sem])
 have y2 : w1.cell? ⟨w.heap.size, 2, none⟩ = some (.slice a2 n2 c2) := cK hb1 (by simp [go_sem])
 have y3 : w1.cell? ⟨w.heap.size, 3, none⟩ = some (.slice a3 n3 c3) := cK hb1 (by simp [go_sem])
 have y4 : w1.cell? ⟨w.heap.size, 4, none⟩ = some (.slice a4 n4 c4) := cK hb1 (by simp [go_sem])
 have y5 : w1.cell? ⟨w.heap.size, 5, none⟩ = some (.slice a5 n5 c5) := cK hb1 (by simp [go_sem])
 have hB1 : Below w.heap.size w w1 := bS (qBq) hb1
 clear hb1 HBa
 by_cases hbf : bf = 0
 rotate_left
 ·
  have HC := HD0.out hbf
  have hbf' : (bf != 0) = true := by simp [hbf]
  go_wp2
  go_ret
  exact ⟨by rw [HC]; rfl, qBq⟩
 have HBO' := HBO.out hbf
 have HHd' : Hid (∀ W, Below w.heap.size w W → Calls Tryz.prog 62 #[.agg #[.int .i64 d.idx, .slice a1 n1 c1, .slice a2 n2 c2, .slice a3 n3 c3, .slice a4 n4 c4, .slice a5 n5 c5]] W fun e w' => e = .returned (.int .i64 tf) ∧ Below W.heap.size W w') := fun W hW => HHd.out W hW HBO'
 have HD1' : Hid ((100 < n2 ∨ 100 < n3 ∨ 100 < n4 ∨ 100 < n5) → Z = 2) := fun h => HD1.out hbf h
 have HD2' : Hid (¬ (100 < n2 ∨ 100 < n3 ∨ 100 < n4 ∨ 100 < n5) → ¬ fv = 0 → Z = fv) := fun h h2 => HD2.out hbf h h2
 have HD3' : Hid (¬ (100 < n2 ∨ 100 < n3 ∨ 100 < n4 ∨ 100 < n5) → fv = 0 → ¬ fd = 0 → Z = fd) := fun h h2 h3 => HD3.out hbf h h2 h3
 have HD4' : Hid (¬ (100 < n2 ∨ 100 < n3 ∨ 100 < n4 ∨ 100 < n5) → fv = 0 → fd = 0 → Z = tf) := fun h h2 h3 => HD4.out hbf h h2 h3
 rw [hbf]
 clear HD0 HD1 HD2 HD3 HD4 HBO HBO' HHd hbf
 by_cases m2 : 100 < n2
 ·
  have HC := HD1'.out (.inl m2)
  have m2' : (100 : Int) < n2 := by omega
  go_wp2
  go_ret
  exact ⟨by rw [HC]; rfl, qBq⟩
 have m2' : ¬ (100 : Int) < n2 := by omega
 by_cases m3 : 100 < n3
 ·
  have HC := HD1'.out (.inr (.inl m3))
  have m3' : (100 : Int) < n3 := by omega
  go_wp2
  go_ret
  exact ⟨by rw [HC]; rfl, qBq⟩
 have m3' : ¬ (100 : Int) < n3 := by omega
 by_cases m4 : 100 < n4
 ·
  have HC := HD1'.out (.inr (.inr (.inl m4)))
  have m4' : (100 : Int) < n4 := by omega
  go_wp2
  go_ret
  exact ⟨by rw [HC]; rfl, qBq⟩
 have m4' : ¬ (100 : Int) < n4 := by omega
 by_cases m5 : 100 < n5
 ·
  have HC := HD1'.out (.inr (.inr (.inr m5)))
  have m5' : (100 : Int) < n5 := by omega
  go_wp2
  go_ret
  exact ⟨by rw [HC]; rfl, qBq⟩
 have m5' : ¬ (100 : Int) < n5 := by omega
 have hmany : ¬ (100 < n2 ∨ 100 < n3 ∨ 100 < n4 ∨ 100 < n5) := by omega
 have HE2 : Hid (¬ fv = 0 → Z = fv) := fun h => HD2'.out hmany h
 have HE3 : Hid (fv = 0 → ¬ fd = 0 → Z = fd) := fun h h2 => HD3'.out hmany h h2
 have HE4 : Hid (fv = 0 → fd = 0 → Z = tf) := fun h h2 => HD4'.out hmany h h2
 clear HD1' HD2' HD3' HD4' hmany
 go_wp2_with fail
 refine (HVo.out _ hB1).mono ?_
 rintro e w2 ⟨rfl, hb2⟩
 have hB2 : Below w.heap.size w w2 := bS hB1 hb2
 replace y0 := cK hb2 y0
 replace y1 := cK hb2 y1
 replace y2 := cK hb2 y2
 replace y3 := cK hb2 y3
 replace y4 := cK hb2 y4
 replace y5 := cK hb2 y5
 clear hb2 HVo
 by_cases hfv : fv = 0
 rotate_left
 ·
  have HC := HE2.out hfv
  have hfv' : (fv != 0) = true := by simp [hfv]
  go_wp2
  go_ret
  exact ⟨by rw [HC]; rfl, qBq⟩
 rw [hfv]
 go_wp2_with fail
 refine (HDo.out _ hB2).mono ?_
 rintro e w3 ⟨rfl, hb3⟩
 have hB3 : Below w.heap.size w w3 := bS hB2 hb3
 replace y0 := cK hb3 y0
 replace y1 := cK hb3 y1
 replace y2 := cK hb3 y2
 replace y3 := cK hb3 y3
 replace y4 := cK hb3 y4
 replace y5 := cK hb3 y5
 clear hb3 HDo
 by_cases hfd : fd = 0
 rotate_left
 ·
  have HC := HE3.out hfv hfd
  have hfd' : (fd != 0) = true := by simp [hfd]
  go_wp2
  go_ret
  exact ⟨by rw [HC]; rfl, qBq⟩
 have HC : Hid (Z = tf) := HE4.out hfv hfd
 rw [hfd]
 clear HE2 HE3 HE4 hfv hfd
 go_wp2_with fail
 refine (HHd'.out _ hB3).mono ?_
 rintro e w4 ⟨rfl, hb4⟩
 go_wp2
 go_ret
 exact ⟨by rw [HC.out]; rfl, bS hB3 hb4⟩
end Go.Proofs.YtndghenlapbaaaaGreat

/-
 May a shard say that it is ready: the document's.
-/
namespace Go.Proofs.YtndghenlapbaaaaGreat
open Go.RowKit
variable [DecidableEq Rw] [Inhabited Rw] [DecidableEq Bal] [Inhabited Bal] [DecidableEq Ledg] [Inhabited Ledg] [DecidableEq Leg] [Inhabited Leg] [DecidableEq Cont] [Inhabited Cont] [DecidableEq LedgR] [Inhabited LedgR] [DecidableEq OutcR] [Inhabited OutcR] [DecidableEq Mrk] [Inhabited Mrk] [DecidableEq Shd] [Inhabited Shd] [DecidableEq ShdR] [Inhabited ShdR]
attribute [local go_sem ↓] Go.wp_at_zero Go.wp_at_succ

theorem cf_fault {c : Cont} (h : contractFault c.id c.legs = 0) : ∀ l ∈ c.legs, legFault l = 0 := fun l hl => by
 obtain ⟨i, hi, rfl⟩ := List.getElem_of_mem hl
 have h1 := ((cf_inv h).2.2.2.1 i hi).1
 have e : c.legs.getD i default = c.legs[i] := by rw [List.getD, List.getElem?_eq_getElem hi]; rfl
 rw [e] at h1
 exact h1
theorem cf_small {c : Cont} (h : contractFault c.id c.legs = 0) (s : Int) : small (onSh s c.legs) := fun j hj => by
 have hm : (onSh s c.legs).getD j default ∈ onSh s c.legs := by simp [List.getD, hj]
 exact (legFault_zero (cf_fault h _ (List.mem_filter.1 hm).1)).2.2.2.1
theorem cf_len {c : Cont} (h : contractFault c.id c.legs = 0) : c.legs.length ≤ 8 := (cf_inv h).2.2.1
def touchF (d : Shd) (c : Cont) (o : Cont) : Bool := touch (onSh d.idx c.legs) (onSh d.idx o.legs)
theorem readyB_done {d : Shd} {c : Cont} (h : ¬ findM c.id d.done = 0) : readyB d c = false := by unfold readyB; rw [decide_eq_false_iff_not]; exact fun h' => h h'.1
theorem readyB_can {d : Shd} {c : Cont} (h : ¬ canLs d.bals (onSh d.idx c.legs) = 0) : readyB d c = false := by unfold readyB; rw [decide_eq_false_iff_not]; exact fun h' => h h'.2.1
theorem readyB_touch {d : Shd} {c : Cont} (h : d.held.any (touchF d c) = true) : readyB d c = false := by
 unfold readyB
 rw [decide_eq_false_iff_not]
 intro h'
 have h2 := h'.2.2
 unfold touchF at h
 rw [h] at h2
 cases h2
theorem readyB_ok {d : Shd} {c : Cont} (h1 : findM c.id d.done = 0) (h2 : canLs d.bals (onSh d.idx c.legs) = 0) (h3 : d.held.any (touchF d c) = false) : readyB d c = true := by
 unfold readyB
 rw [decide_eq_true_iff]
 exact ⟨h1, h2, h3⟩
set_option maxRecDepth 20000 in
set_option maxHeartbeats 8000000 in
theorem l10Ready_any (x y : Value) (d : Shd) (c : Cont) (w : World) (hx : shdR.V w x d) (hy : contR.V w y c) (hbo : BalsOk d.bals) (hcf : contractFault c.id c.legs = 0) (hok : HeldOk d) :
  Calls Tryz.prog 66 #[x, y] w fun e w' => e = .returned (.bool (readyB d c)) ∧ Below w.heap.size w w' := by
 obtain ⟨uy, rfl, hy⟩ := hy
 obtain ⟨u1, u2, u3, u4, u5, rfl, h1, h2, h3, h4, h5⟩ := hx
 have HX3 : Hid (∃ a c, u3 = .slice a d.held.length c ∧ d.held.length ≤ c ∧ c ≤ maxLen ∧ ∀ k, k < d.held.length → ∃ b o p q, a = some ⟨b, o, none⟩ ∧ w.cell? ⟨b, o + k * 2, none⟩ = some (.int .i64 (d.held.getD k default).id) ∧ w.cell? ⟨b, o + k * 2 + 1, none⟩ = some (.slice p (d.held.getD k default).legs.length q) ∧ contR.V w (.agg #[.int .i64 (d.held.getD k default).id, .slice p (d.held.getD k default).legs.length q]) (d.held.getD k default)) := conts_at h3
 have HDo : Hid (∀ W, Below w.heap.size w W → Calls Tryz.prog 65 #[u4, .int .i64 c.id] W fun e w' => e = .returned (.int .i64 (findM c.id d.done)) ∧ Below W.heap.size W w') := fun W hW => l10Find_any u4 _ c.id W (mrksR.below h4 hW)
 have HL2 : Hid (∀ W y, Below w.heap.size w W → legsR.V W y (onSh d.idx c.legs) → Calls Tryz.prog 103 #[u1, y] W fun e w' => e = .returned (.int .i64 (canLs d.bals (onSh d.idx c.legs))) ∧ Below W.heap.size W w') := fun W y hW hy => l2Legs_any u1 y d.bals _ W (balsR.below h1 hW) hy (smallB_of hbo) (cf_small hcf _)
 have HLc : Hid (∀ W, Below w.heap.size w W → Calls Tryz.prog 27 #[.agg #[.int .i64 c.id, uy], .int .i64 d.idx] W fun e w' => ∃ v, e = .returned v ∧ w'.ownsRow W.heap.size 93 4 v (onSh d.idx c.legs).length (legsC (onSh d.idx c.legs)) ∧ Below W.heap.size W w') := fun W hW => l1Legs_any _ _ _ _ W (legsR.below hy hW) (by have := cf_len hcf; omega)
 have HLg : Hid (∀ W k p q, Below w.heap.size w W → k < d.held.length → contR.V w (.agg #[.int .i64 (d.held.getD k default).id, .slice p (d.held.getD k default).legs.length q]) (d.held.getD k default) → Calls Tryz.prog 27 #[.agg #[.int .i64 (d.held.getD k default).id, .slice p (d.held.getD k default).legs.length q], .int .i64 d.idx] W fun e w' => ∃ v, e = .returned v ∧ w'.ownsRow W.heap.size 93 4 v (legsH d k).length (legsC (legsH d k)) ∧ Below W.heap.size W w') := fun W k p q hW hk hV => by
  obtain ⟨u, e, hu⟩ := contR.below hV hW
  simp only [Value.agg.injEq, Array.mk.injEq, List.cons.injEq, and_true, true_and] at e
  subst e
  exact l1Legs_any _ _ _ _ W hu (by have := hok.len hk; omega)
 obtain ⟨a1, c1, rfl⟩ := bals_form h1
 obtain ⟨a2, c2, rfl⟩ := mrks_form h2
 obtain ⟨a3, c3, rfl⟩ := conts_form h3
 obtain ⟨a4, c4, rfl⟩ := mrks_form h4
 obtain ⟨a5, c5, rfl⟩ := ints_form h5
 obtain ⟨_, _, e3, hc3, hm3, hx3⟩ := HX3.out
 simp only [Value.slice.injEq, true_and] at e3
 obtain ⟨rfl, rfl⟩ := e3
 unfold maxLen at hm3
 have HX : Hid (∀ k, k < d.held.length → ∃ b o p q, a3 = some ⟨b, o, none⟩ ∧ w.cell? ⟨b, o + k * 2, none⟩ = some (.int .i64 (d.held.getD k default).id) ∧ w.cell? ⟨b, o + k * 2 + 1, none⟩ = some (.slice p (d.held.getD k default).legs.length q) ∧ contR.V w (.agg #[.int .i64 (d.held.getD k default).id, .slice p (d.held.getD k default).legs.length q]) (d.held.getD k default)) := hx3
 obtain ⟨ax, cx, rfl⟩ := legs_form hy
 clear h1 h2 h3 h4 h5 hy HX3 hx3
 have HAn : Hid (∀ k, k < d.held.length → (d.held.take k).any (touchF d c) = false → touch (onSh d.idx c.legs) (legsH d k) = false → (d.held.take (k + 1)).any (touchF d c) = false) := fun k hk h1 h2 => by
  rw [any_take _ hk, h1]
  exact h2
 have HAy : Hid (∀ k, k < d.held.length → touch (onSh d.idx c.legs) (legsH d k) = true → readyB d c = false) := fun k hk h => readyB_touch (any_at hk h)
 have HAl : Hid (findM c.id d.done = 0 → canLs d.bals (onSh d.idx c.legs) = 0 → (d.held.take d.held.length).any (touchF d c) = false → readyB d c = true) := fun h1 h2 h3 => readyB_ok h1 h2 (by rw [List.take_length] at h3; exact h3)
 have HE1 : Hid (¬ findM c.id d.done = 0 → readyB d c = false) := fun h => readyB_done h
 have HE2 : Hid (¬ canLs d.bals (onSh d.idx c.legs) = 0 → readyB d c = false) := fun h => readyB_can h
 obtain ⟨n3, hn3⟩ : ∃ n3, n3 = d.held.length := ⟨_, rfl⟩
 rw [← hn3] at HX HAn HAy HAl HLg hc3 ⊢
 clear hn3
 generalize d.bals.length = n1 at *
 generalize d.votes.length = n2 at *
 generalize d.done.length = n4 at *
 generalize d.appl.length = n5 at *
 generalize c.legs.length = nx at *
 generalize readyB d c = Z at *
 generalize findM c.id d.done = fd at *
 generalize canLs d.bals (onSh d.idx c.legs) = cl at *
 go_enter Tryz.func66, Tryz.ntmps66
 go_wp2_with fail
 refine (HLc.out _ (qBq)).mono ?_
 rintro e w1 ⟨vl, rfl, ol, hb1⟩
 obtain ⟨al, cl', rfl⟩ := owns_form ol
 have hB1 : Below w.heap.size w w1 := bS (qBq) hb1
 have y0 : w1.cell? ⟨w.heap.size, 0, none⟩ = some (.int .i64 d.idx) := cK hb1 (by simp [go_sem])
 have y1 : w1.cell? ⟨w.heap.size, 1, none⟩ = some (.slice a1 n1 c1) := cK hb1 (by simp [go_sem])
 have y2 : w1.cell? ⟨w.heap.size, 2, none⟩ = some (.slice a2 n2 c2) := cK hb1 (by simp [go_sem])
 have y3 : w1.cell? ⟨w.heap.size, 3, none⟩ = some (.slice a3 n3 c3) := cK hb1 (by simp [go_sem])
 have y4 : w1.cell? ⟨w.heap.size, 4, none⟩ = some (.slice a4 n4 c4) := cK hb1 (by simp [go_sem])
 have y5 : w1.cell? ⟨w.heap.size, 5, none⟩ = some (.slice a5 n5 c5) := cK hb1 (by simp [go_sem])
 have x0 : w1.cell? ⟨w.heap.size + 1, 0, none⟩ = some (.int .i64 c.id) := cK hb1 (by simp [go_sem])
 have x1 : w1.cell? ⟨w.heap.size + 1, 1, none⟩ = some (.slice ax nx cx) := cK hb1 (by simp [go_sem])
 have HVl : Hid (∀ W, Below w1.heap.size w1 W → legsR.V W (.slice al (onSh d.idx c.legs).length cl') (onSh d.idx c.legs)) := fun W hW => LegsV_below (LegsV_of_owns ol) hW
 have HTo : Hid (∀ k W y, Below w1.heap.size w1 W → legsR.V W y (legsH d k) → Calls Tryz.prog 102 #[.slice al (onSh d.idx c.legs).length cl', y] W fun e w' => e = .returned (.bool (touch (onSh d.idx c.legs) (legsH d k))) ∧ Below W.heap.size W w') := fun k W y hW hy => l10Touch_any _ _ _ _ W (HVl.out W hW) hy
 clear hb1 ol HLc
 generalize (onSh d.idx c.legs).length = nl at *
 go_wp2_with fail
 refine (HDo.out _ hB1).mono ?_
 rintro e w2 ⟨rfl, hb2⟩
 have hB2 : Below w.heap.size w w2 := bS hB1 hb2
 replace y0 := cK hb2 y0
 replace y1 := cK hb2 y1
 replace y2 := cK hb2 y2
 replace y3 := cK hb2 y3
 replace y4 := cK hb2 y4
 replace y5 := cK hb2 y5
 replace x0 := cK hb2 x0
 replace x1 := cK hb2 x1
 by_cases hfd : fd = 0
 rotate_left
 ·
  have HC := HE1.out hfd
  have hfd' : (fd != 0) = true := by simp [hfd]
  go_wp2
  go_ret
  exact ⟨by rw [HC] <;> rfl, qBq⟩
 have hfd' : (fd != 0) = false := by simp [hfd]
 go_wp2_with fail
 refine (HL2.out _ _ hB2 (HVl.out _ hb2)).mono ?_
 rintro e w3 ⟨rfl, hb3⟩
 have hB3 : Below w.heap.size w w3 := bS hB2 hb3
 have hB13 : Below w1.heap.size w1 w3 := bS hb2 hb3
 replace y0 := cK hb3 y0
 replace y1 := cK hb3 y1
 replace y2 := cK hb3 y2
 replace y3 := cK hb3 y3
 replace y4 := cK hb3 y4
 replace y5 := cK hb3 y5
 replace x0 := cK hb3 x0
 replace x1 := cK hb3 x1
 by_cases hcl : cl = 0
 rotate_left
 ·
  have HC := HE2.out hcl
  have hcl' : (cl != 0) = true := by simp [hcl]
  go_wp2
  go_ret
  exact ⟨by rw [HC] <;> rfl, qBq⟩
 have hcl'' : (cl != 0) = false := by simp [hcl]
 have HAl' : Hid ((d.held.take n3).any (touchF d c) = false → Z = true) := fun h => HAl.out hfd hcl h
 clear HAl HE1 HE2 HDo HL2 hfd hcl hb3 hb2
 go_wp2
 go_loopw [6] (fun i w' => ∃ k : Nat, k ≤ n3 ∧ i = .int .i64 k ∧ Hid ((d.held.take k).any (touchF d c) = false) ∧ Below w3.heap.size w3 w') (fun i _ => n3 - (intOf i).toNat)
 case atStart => exact ⟨0, Nat.zero_le _, rfl, by show (d.held.take 0).any _ = false; rfl, qBq⟩
 case round =>
  obtain ⟨k, hk, rfl, HS, hbl⟩ := hrel
  have hBr : Below w.heap.size w wr := bS hB3 hbl
  replace y0 := cK hbl y0
  replace y1 := cK hbl y1
  replace y2 := cK hbl y2
  replace y3 := cK hbl y3
  replace y4 := cK hbl y4
  replace y5 := cK hbl y5
  replace x0 := cK hbl x0
  replace x1 := cK hbl x1
  have hB1r : Below w1.heap.size w1 wr := bS hB13 hbl
  by_cases hlt : k < n3
  ·
   obtain ⟨bx, ox, p1, q1, rfl, g0, g1, hV⟩ := HX.out k hlt
   have HG1 : Hid (∀ W, Below wr.heap.size wr W → Calls Tryz.prog 27 #[.agg #[.int .i64 (d.held.getD k default).id, .slice p1 (d.held.getD k default).legs.length q1], .int .i64 d.idx] W fun e w' => ∃ v, e = .returned v ∧ w'.ownsRow W.heap.size 93 4 v (legsH d k).length (legsC (legsH d k)) ∧ Below W.heap.size W w') := fun W hW => HLg.out W k p1 q1 (bS hBr hW) hlt hV
   have HTo' : Hid (∀ W y, Below wr.heap.size wr W → legsR.V W y (legsH d k) → Calls Tryz.prog 102 #[.slice al nl cl', y] W fun e w' => e = .returned (.bool (touch (onSh d.idx c.legs) (legsH d k))) ∧ Below W.heap.size W w') := fun W y hW hy => HTo.out k W y (bS hB1r hW) hy
   clear hV
   replace g0 := cK hBr g0
   replace g1 := cK hBr g1
   have k1 : (k : Int) < n3 := by omega
   have k2 : (0 : Int) ≤ k := by omega
   cases htc : touch (onSh d.idx c.legs) (legsH d k)
   ·
    have HC : Hid ((d.held.take (k + 1)).any (touchF d c) = false) := HAn.out k hlt HS.out htc
    clear HAn HAy HAl' HS
    go_wp2
    refine wp_region_noPanic ?_
    refine region_upto (fun W => Below wr.heap.size wr W ∧ W.cell? ⟨w.heap.size, 0, none⟩ = some (.int .i64 d.idx) ∧ W.cell? ⟨w.heap.size, 3, none⟩ = some (.slice (some ⟨bx, ox, none⟩) n3 c3) ∧ W.cell? ⟨bx, ox + k * 2, none⟩ = some (.int .i64 (d.held.getD k default).id) ∧ W.cell? ⟨bx, ox + k * 2 + 1, none⟩ = some (.slice p1 (d.held.getD k default).legs.length q1)) 10 (by kernel_rfl) ⟨qBq, cK (qBq) y0, cK (qBq) y3, cK (qBq) g0, cK (qBq) g1⟩ (fun hS => ?_)
    refine tN (i := 0) (v := ?_) rfl (by kernel_rfl) hS ?_ ?_
    rotate_left
    ·
     intro wS hSw; (try dsimp only at hSw); go_simp; try with_reducible rfl
    try simp only [Act.put, jA, jB, jC, jD, jE, jF]
    refine tN (i := 1) (v := ?_) rfl (by kernel_rfl) hS ?_ ?_
    rotate_left
    ·
     intro wS hSw; (try dsimp only at hSw); go_simp; try with_reducible rfl
    try simp only [Act.put, jA, jB, jC, jD, jE, jF]
    refine tN (i := 2) (v := ?_) rfl (by kernel_rfl) hS ?_ ?_
    rotate_left
    ·
     intro wS hSw; (try dsimp only at hSw); go_simp; try with_reducible rfl
    try simp only [Act.put, jA, jB, jC, jD, jE, jF]
    refine tN (i := 3) (v := ?_) rfl (by kernel_rfl) hS ?_ ?_
    rotate_left
    ·
     intro wS hSw; (try dsimp only at hSw); go_simp; try with_reducible rfl
    try simp only [Act.put, jA, jB, jC, jD, jE, jF]
    refine tN (i := 4) (v := ?_) rfl (by kernel_rfl) hS ?_ ?_
    rotate_left
    ·
     intro wS hSw; (try dsimp only at hSw); go_simp; try with_reducible rfl
    try simp only [Act.put, jA, jB, jC, jD, jE, jF]
    refine tN (i := 5) (v := ?_) rfl (by kernel_rfl) hS ?_ ?_
    rotate_left
    ·
     intro wS hSw; (try dsimp only at hSw); go_simp; try with_reducible rfl
    try simp only [Act.put, jA, jB, jC, jD, jE, jF]
    refine tN (i := 6) (v := ?_) rfl (by kernel_rfl) hS ?_ ?_
    rotate_left
    ·
     intro wS hSw; (try dsimp only at hSw); go_simp; try with_reducible rfl
    try simp only [Act.put, jA, jB, jC, jD, jE, jF]
    refine tN (i := 7) (v := ?_) rfl (by kernel_rfl) hS ?_ ?_
    rotate_left
    ·
     intro wS hSw; (try dsimp only at hSw); go_simp; try with_reducible rfl
    try simp only [Act.put, jA, jB, jC, jD, jE, jF]
    refine upto_step (i := 8) (by kernel_rfl) rfl ?_
    intro K hK
    go_simp
    refine (HG1.out _ hS.1).mono ?_
    rintro e wz1 ⟨vl2, rfl, ol2, hbz1⟩
    obtain ⟨al2, cl2, rfl⟩ := owns_form ol2
    have V2 := LegsV_of_owns ol2
    have hbz1' : Below wr.heap.size wr wz1 := bS hS.1 hbz1
    have hS3 := And.intro hbz1' (And.intro (cK hbz1 hS.2.1) (And.intro (cK hbz1 hS.2.2.1) (And.intro (cK hbz1 hS.2.2.2.1) (cK hbz1 hS.2.2.2.2))))
    refine hK _ _ (fun _ => hS3) ?_
    clear hK K hS hbz1
    have hS := hS3
    clear hS3
    try simp only [Act.put, jA, jB, jC, jD, jE, jF]
    refine upto_step (i := 9) (by kernel_rfl) rfl ?_
    intro K hK
    go_simp
    refine (HTo'.out _ _ hS.1 V2).mono ?_
    rintro e wz ⟨rfl, hbz⟩
    rw [htc]
    have hbz' : Below wr.heap.size wr wz := bS hS.1 hbz
    have hS3 := And.intro hbz' (And.intro (cK hbz hS.2.1) (And.intro (cK hbz hS.2.2.1) (And.intro (cK hbz hS.2.2.2.1) (cK hbz hS.2.2.2.2))))
    refine hK _ _ (fun _ => hS3) ?_
    clear hK K hS hbz
    have hS := hS3
    clear hS3
    try simp only [Act.put, jA, jB, jC, jD, jE, jF]
    refine upto_done (by kernel_rfl) ?_
    refine NoPanic.normal ?_
    go_wp2
    exact ⟨⟨k + 1, by omega, by go_num, HC, bS hbl hS.1⟩, by simp [intOf]; omega⟩
   ·
    have HC : Z = false := HAy.out k hlt htc
    clear HAn HAy HAl' HS
    go_wp2
    refine wp_region_noPanic ?_
    refine region_upto (fun W => Below wr.heap.size wr W ∧ W.cell? ⟨w.heap.size, 0, none⟩ = some (.int .i64 d.idx) ∧ W.cell? ⟨w.heap.size, 3, none⟩ = some (.slice (some ⟨bx, ox, none⟩) n3 c3) ∧ W.cell? ⟨bx, ox + k * 2, none⟩ = some (.int .i64 (d.held.getD k default).id) ∧ W.cell? ⟨bx, ox + k * 2 + 1, none⟩ = some (.slice p1 (d.held.getD k default).legs.length q1)) 10 (by kernel_rfl) ⟨qBq, cK (qBq) y0, cK (qBq) y3, cK (qBq) g0, cK (qBq) g1⟩ (fun hS => ?_)
    refine tN (i := 0) (v := ?_) rfl (by kernel_rfl) hS ?_ ?_
    rotate_left
    ·
     intro wS hSw; (try dsimp only at hSw); go_simp; try with_reducible rfl
    try simp only [Act.put, jA, jB, jC, jD, jE, jF]
    refine tN (i := 1) (v := ?_) rfl (by kernel_rfl) hS ?_ ?_
    rotate_left
    ·
     intro wS hSw; (try dsimp only at hSw); go_simp; try with_reducible rfl
    try simp only [Act.put, jA, jB, jC, jD, jE, jF]
    refine tN (i := 2) (v := ?_) rfl (by kernel_rfl) hS ?_ ?_
    rotate_left
    ·
     intro wS hSw; (try dsimp only at hSw); go_simp; try with_reducible rfl
    try simp only [Act.put, jA, jB, jC, jD, jE, jF]
    refine tN (i := 3) (v := ?_) rfl (by kernel_rfl) hS ?_ ?_
    rotate_left
    ·
     intro wS hSw; (try dsimp only at hSw); go_simp; try with_reducible rfl
    try simp only [Act.put, jA, jB, jC, jD, jE, jF]
    refine tN (i := 4) (v := ?_) rfl (by kernel_rfl) hS ?_ ?_
    rotate_left
    ·
     intro wS hSw; (try dsimp only at hSw); go_simp; try with_reducible rfl
    try simp only [Act.put, jA, jB, jC, jD, jE, jF]
    refine tN (i := 5) (v := ?_) rfl (by kernel_rfl) hS ?_ ?_
    rotate_left
    ·
     intro wS hSw; (try dsimp only at hSw); go_simp; try with_reducible rfl
    try simp only [Act.put, jA, jB, jC, jD, jE, jF]
    refine tN (i := 6) (v := ?_) rfl (by kernel_rfl) hS ?_ ?_
    rotate_left
    ·
     intro wS hSw; (try dsimp only at hSw); go_simp; try with_reducible rfl
    try simp only [Act.put, jA, jB, jC, jD, jE, jF]
    refine tN (i := 7) (v := ?_) rfl (by kernel_rfl) hS ?_ ?_
    rotate_left
    ·
     intro wS hSw; (try dsimp only at hSw); go_simp; try with_reducible rfl
    try simp only [Act.put, jA, jB, jC, jD, jE, jF]
    refine upto_step (i := 8) (by kernel_rfl) rfl ?_
    intro K hK
    go_simp
    refine (HG1.out _ hS.1).mono ?_
    rintro e wz1 ⟨vl2, rfl, ol2, hbz1⟩
    obtain ⟨al2, cl2, rfl⟩ := owns_form ol2
    have V2 := LegsV_of_owns ol2
    have hbz1' : Below wr.heap.size wr wz1 := bS hS.1 hbz1
    have hS3 := And.intro hbz1' (And.intro (cK hbz1 hS.2.1) (And.intro (cK hbz1 hS.2.2.1) (And.intro (cK hbz1 hS.2.2.2.1) (cK hbz1 hS.2.2.2.2))))
    refine hK _ _ (fun _ => hS3) ?_
    clear hK K hS hbz1
    have hS := hS3
    clear hS3
    try simp only [Act.put, jA, jB, jC, jD, jE, jF]
    refine upto_step (i := 9) (by kernel_rfl) rfl ?_
    intro K hK
    go_simp
    refine (HTo'.out _ _ hS.1 V2).mono ?_
    rintro e wz ⟨rfl, hbz⟩
    rw [htc]
    have hbz' : Below wr.heap.size wr wz := bS hS.1 hbz
    have hS3 := And.intro hbz' (And.intro (cK hbz hS.2.1) (And.intro (cK hbz hS.2.2.1) (And.intro (cK hbz hS.2.2.2.1) (cK hbz hS.2.2.2.2))))
    refine hK _ _ (fun _ => hS3) ?_
    clear hK K hS hbz
    have hS := hS3
    clear hS3
    try simp only [Act.put, jA, jB, jC, jD, jE, jF]
    refine upto_done (by kernel_rfl) ?_
    refine NoPanic.normal ?_
    go_wp2
    go_ret
    exact ⟨by rw [HC] <;> rfl, bS hBr hS.1⟩
  ·
   have hkn : k = n3 := by omega
   subst hkn
   have HC := HAl'.out HS.out
   go_wp2
   go_ret
   exact ⟨by rw [HC] <;> rfl, qBq⟩
end Go.Proofs.YtndghenlapbaaaaGreat

