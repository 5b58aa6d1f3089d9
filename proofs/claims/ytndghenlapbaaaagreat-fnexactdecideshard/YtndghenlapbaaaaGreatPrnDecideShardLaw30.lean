import Derived.Test.YtndghenlapbaaaaGreatPrnDecideShardLaw27
import Derived.Test.YtndghenlapbaaaaGreatPrnDecideShardLaw19
import Derived.Test.YtndghenlapbaaaaGreatPrnDecideShardLaw2
import Derived.BigQuiet
import Derived.Deep.QuietTactic
import Derived.Deep.RegionHeld3
import Derived.Test.YtndghenlapbaaaaGreatPrnDecideShardLaw29
import Derived.Test.YtndghenlapbaaaaGreatPrnDecideShardLaw17
import Derived.Test.YtndghenlapbaaaaGreatPrnDecideShardLaw4
import Derived.Shelf.Abstract
import Derived.Laws.CopyRow
import Derived.Laws.Externs
import Derived.Lib.Overlaps
import Derived.Lib.AppendZerosOnto
import Derived.Deep.RegionLaw
import Derived.Maps.AppendAt
import Derived.Test.YtndghenlapbaaaaGreatPrnDecideShardLaw20
import Derived.Test.YtndghenlapbaaaaGreatPrnDecideShardLaw21
import Derived.Test.YtndghenlapbaaaaGreatPrnDecideShardLaw3
set_option linter.unusedSimpArgs false
set_option linter.unusedVariables false
set_option linter.unusedSectionVars false

/-
 What a shard is asked; a shard without a fault.
-/
namespace Go.Proofs.YtndghenlapbaaaaGreat
open Go.RowKit
variable [DecidableEq Rw] [Inhabited Rw] [DecidableEq Bal] [Inhabited Bal] [DecidableEq Ledg] [Inhabited Ledg] [DecidableEq Leg] [Inhabited Leg] [DecidableEq Cont] [Inhabited Cont] [DecidableEq LedgR] [Inhabited LedgR] [DecidableEq OutcR] [Inhabited OutcR] [DecidableEq Mrk] [Inhabited Mrk] [DecidableEq Shd] [Inhabited Shd] [DecidableEq ShdR] [Inhabited ShdR]
attribute [local go_sem ↓] Go.wp_at_zero Go.wp_at_succ

theorem conts_own {w : World} {base : Nat} {F : Nat → Prop} {v : Value} {xs : List Cont} (h : contsR.O w base F v xs) {b : Nat} (e : v.ownBlock = some b) : F b := by
 obtain ⟨cs, us, fs, hp, hF⟩ := h
 exact (hF b).2 (.inl e)
structure ShdOk (d : Shd) : Prop where
 base : baseF d.idx d.bals = 0
 ls : LsOk d
 held : HeldOk d
theorem shdOk_of {d : Shd} (h : shdF d = 0) : ShdOk d := by
 have h0 : listsF d = 0 := by
  unfold shdF at h
  split at h
  ·
   assumption
  ·
   rename_i h1; exact absurd h h1
 obtain ⟨h1, h2, h3⟩ := listsF_ok h0
 exact ⟨h1, h2, h3⟩
theorem bals_len {bs : List Bal} (h : balFault bs = 0) : bs.length ≤ 1000000 := by
 have := (balsOk_of h).len
 omega
end Go.Proofs.YtndghenlapbaaaaGreat

/-
 An outcome written into a shard: the program's.
-/
namespace Go.Proofs.YtndghenlapbaaaaGreat
open Go.RowKit
variable [DecidableEq Rw] [Inhabited Rw] [DecidableEq Bal] [Inhabited Bal] [DecidableEq Ledg] [Inhabited Ledg] [DecidableEq Leg] [Inhabited Leg] [DecidableEq Cont] [Inhabited Cont] [DecidableEq LedgR] [Inhabited LedgR] [DecidableEq OutcR] [Inhabited OutcR] [DecidableEq Mrk] [Inhabited Mrk] [DecidableEq Shd] [Inhabited Shd] [DecidableEq ShdR] [Inhabited ShdR]
attribute [local go_sem ↓] Go.wp_at_zero Go.wp_at_succ

def DecE (D : Shd) (base : Nat) (w : World) (e : Ending) (w' : World) : Prop := ∃ v F', e = .returned v ∧ shdR.O w' base F' v D ∧ Below base w w'
theorem balss_at {w : World} {base : Nat} {F : Nat → Prop} {v : Value} {xs : List (List Bal)} (h : balssR.O w base F v xs) {i : Nat} (hi : i < xs.length) : ∃ g c p m q Fi, v = .slice (some ⟨g, 0, none⟩) xs.length c ∧ w.cell? ⟨g, i, none⟩ = some (.slice p m q) ∧ balsR.O w base Fi (.slice p m q) (xs.getD i default) ∧ ∀ b, Fi b → F b := by
 obtain ⟨cs, us, fs, hp, hF⟩ := h
 rcases hp.row.2 with ⟨_, h0⟩ | ⟨g, cap, cur, rfl, _⟩
 ·
  omega
 have ho := hp.el i hi
 obtain ⟨p, q, e⟩ := owns_form ho.1
 have hcl : cs.length = xs.length * 1 := hp.row.1
 have hc := hp.row.cellAt (i * 1) (by omega)
 have h2 := hp.cell i hi 0 (by omega)
 rw [Nat.add_zero] at h2
 rw [h2, e] at hc
 refine ⟨g, cap, p, (xs.getD i default).length, q, fs i, rfl, ?_, ?_, fun b hb => (hF b).2 (.inr ⟨i, hi, hb⟩)⟩
 ·
  simpa [one] using hc
 ·
  rw [e] at ho; exact ho
theorem decS_out {d : Shd} {k o : Int} (ho : o = 1 ∨ o = 2) (hh : o = 1 → heldIn d.held k = true) (h : heldIn d.held k = false) : decS d k o = ⟨d.idx, d.bals, d.votes, d.held, putM d.done ⟨k, o⟩, d.appl⟩ := by
 unfold decS
 have h1 : ¬ o = 1 := fun e => by rw [hh e] at h; cases h
 rw [if_neg h1, leftC_none h]
theorem decS_not {d : Shd} {k o : Int} (h : ¬ o = 1) : decS d k o = ⟨d.idx, d.bals, d.votes, leftC k d.held, putM d.done ⟨k, o⟩, d.appl⟩ := by unfold decS; rw [if_neg h]
theorem decS_one {d : Shd} {k o : Int} {ls : List Leg} (h : o = 1) (hl : legsOf k d.held = ls) : decS d k o = ⟨d.idx, addB d.bals (onSh d.idx ls), d.votes, leftC k d.held, putM d.done ⟨k, o⟩, d.appl ++ [k]⟩ := by unfold decS; rw [if_pos h, hl]
set_option maxRecDepth 20000 in
set_option maxHeartbeats 16000000 in
theorem deciding_u (x : Value) (d : Shd) (k o : Int) (base : Nat) (F : Nat → Prop) (w : World) (hx : shdR.O w base F x d) (hbase : base ≤ w.heap.size) (hok : ShdOk d) (ho : o = 1 ∨ o = 2) (hh : o = 1 → heldIn d.held k = true) :
  Calls Tryz.prog 59 #[x, .agg #[.int .i64 k, .int .i64 o]] w (DecE (decS d k o) base w) := by
 obtain ⟨a1, a2, a3, a4, a5, c1, c2, c3, c4, c5, rfl⟩ := shd_formO hx
 have HX : Hid (shdR.O w base F (.agg #[.int .i64 d.idx, .slice a1 d.bals.length c1, .slice a2 d.votes.length c2, .slice a3 d.held.length c3, .slice a4 d.done.length c4, .slice a5 d.appl.length c5]) d) := hx
 have HR : Hid (∀ b, F b → base ≤ b ∧ b < w.heap.size) := fun b hb => shdR.rng hx b hb
 have HOK : Hid (ShdOk d) := hok
 have HLh : Hid (d.held.length ≤ 1000) := by have := hok.ls.nh; show _ ≤ _; omega
 have HWm : Hid (∀ W Fj, Below w.heap.size w W → mrksR.O W base Fj (.slice a4 d.done.length c4) d.done → Calls Tryz.prog 77 #[.slice a4 d.done.length c4, .agg #[.int .i64 k, .int .i64 o]] W fun e w' => ∃ u F', e = .returned u ∧ mrksR.O w' base F' u (putM d.done ⟨k, o⟩) ∧ Mod Fj W w' ∧ ∀ b, F' b → Fj b ∨ W.heap.size ≤ b) := fun W Fj hW h => withMark_u _ d.done ⟨k, o⟩ base Fj W h (Nat.le_trans hbase hW.size) (by have := hok.ls.nd; omega) hok.ls.od.rise
 have HPl : Hid (∀ W v, contsR.V W v d.held → Calls Tryz.prog 82 #[v, .int .i64 k] W (PlC d.held k W)) := fun W v hv => placeAmong_any v d.held k W hv (by have := hok.ls.nh; omega) hok.held.rise
 have HHi : Hid (∀ i, (∀ j, j < i → (d.held.getD j default).id < k) → (∀ j, i ≤ j → j < d.held.length → k ≤ (d.held.getD j default).id) → heldIn d.held k = decide (i < d.held.length ∧ (d.held.getD i default).id = k)) := fun i h1 h2 => heldIn_at hok.held.rise h1 h2
 have HOu : Hid (heldIn d.held k = false → decS d k o = ⟨d.idx, d.bals, d.votes, d.held, putM d.done ⟨k, o⟩, d.appl⟩) := fun h => decS_out ho hh h
 have HL5' : d.appl.length ≤ 100 := hok.ls.na
 clear hx hok ho hh
 generalize hn1 : d.bals.length = n1 at *
 generalize hn2 : d.votes.length = n2 at *
 generalize hn4 : d.done.length = n4 at *
 generalize hn5 : d.appl.length = n5 at *
 have HN5 : Hid (d.appl.length = n5) := hn5
 have HL5 : Hid (n5 ≤ 100) := HL5'
 clear hn1 hn2 hn4 hn5 HL5'
 obtain ⟨n3, hn3⟩ : ∃ n3, n3 = d.held.length := ⟨_, rfl⟩
 have HN : Hid (d.held.length = n3) := hn3.symm
 rw [← hn3] at HX ⊢
 clear hn3
 obtain ⟨wq, hwq⟩ : ∃ wq, wq = ((w.alloc (.cells #[.int .i64 d.idx, .slice a1 n1 c1, .slice a2 n2 c2, .slice a3 n3 c3, .slice a4 n4 c4, .slice a5 n5 c5] 37)).alloc (.cells #[.int .i64 k, .int .i64 o] 89)).alloc (.cells #[.int .i64 0, .slice none 0 0, .slice none 0 0, .slice none 0 0, .slice none 0 0, .slice none 0 0] 37) := ⟨_, rfl⟩
 have hBq : Below w.heap.size w wq := by rw [hwq]; (repeat (first | exact bR _ _ | assumption | refine bD ?_ | refine bA ?_ _ | refine bset ?_ (by simp; omega) _ | refine bset ?_ (by simp) _ | refine bS ?_ (by assumption)))
 have zNq : w.heap.size + 2 < wq.heap.size := by rw [hwq]; simp
 have z0 : wq.cell? ⟨w.heap.size, 0, none⟩ = some (.int .i64 d.idx) := by rw [hwq]; simp [go_sem]
 have z1 : wq.cell? ⟨w.heap.size, 1, none⟩ = some (.slice a1 n1 c1) := by rw [hwq]; simp [go_sem]
 have z2 : wq.cell? ⟨w.heap.size, 2, none⟩ = some (.slice a2 n2 c2) := by rw [hwq]; simp [go_sem]
 have z3 : wq.cell? ⟨w.heap.size, 3, none⟩ = some (.slice a3 n3 c3) := by rw [hwq]; simp [go_sem]
 have z4 : wq.cell? ⟨w.heap.size, 4, none⟩ = some (.slice a4 n4 c4) := by rw [hwq]; simp [go_sem]
 have z5 : wq.cell? ⟨w.heap.size, 5, none⟩ = some (.slice a5 n5 c5) := by rw [hwq]; simp [go_sem]
 have m0 : wq.cell? ⟨w.heap.size + 1, 0, none⟩ = some (.int .i64 k) := by rw [hwq]; simp [go_sem]
 have m1 : wq.cell? ⟨w.heap.size + 1, 1, none⟩ = some (.int .i64 o) := by rw [hwq]; simp [go_sem]
 have r0 : wq.cell? ⟨w.heap.size + 2, 0, none⟩ = some (.int .i64 0) := by rw [hwq]; simp [go_sem]
 have r1 : wq.cell? ⟨w.heap.size + 2, 1, none⟩ = some (.slice none 0 0) := by rw [hwq]; simp [go_sem]
 have r2 : wq.cell? ⟨w.heap.size + 2, 2, none⟩ = some (.slice none 0 0) := by rw [hwq]; simp [go_sem]
 have r3 : wq.cell? ⟨w.heap.size + 2, 3, none⟩ = some (.slice none 0 0) := by rw [hwq]; simp [go_sem]
 have r4 : wq.cell? ⟨w.heap.size + 2, 4, none⟩ = some (.slice none 0 0) := by rw [hwq]; simp [go_sem]
 have r5 : wq.cell? ⟨w.heap.size + 2, 5, none⟩ = some (.slice none 0 0) := by rw [hwq]; simp [go_sem]
 have zf : ∀ o, wq.frozen? ⟨w.heap.size, o, none⟩ = false := fun o => by rw [hwq]; simp [go_sem]
 have rf : ∀ o, wq.frozen? ⟨w.heap.size + 2, o, none⟩ = false := fun o => by rw [hwq]; simp [go_sem]
 obtain ⟨F4, o4, hF4, LN4⟩ := shd_done (shdR.keep HX.out hBq)
 have HO4 : Hid (mrksR.O wq base F4 (.slice a4 n4 c4) d.done) := o4
 have HF4 : Hid (∀ b, F4 b → base ≤ b ∧ b < w.heap.size) := fun b hb => HR.out b (hF4 b hb)
 have HLN4 : Hid (∀ (w' : World) (Fj' : Nat → Prop) (v : Value) (ys : List Mrk), mrksR.O w' base Fj' v ys → Mod F4 wq w' → (∀ b, Fj' b → F4 b ∨ wq.heap.size ≤ b) → ∃ F', shdR.O w' base F' (.agg #[.int .i64 d.idx, .slice a1 n1 c1, .slice a2 n2 c2, .slice a3 n3 c3, v, .slice a5 n5 c5]) ⟨d.idx, d.bals, d.votes, d.held, ys, d.appl⟩ ∧ ∀ b, F' b → F b ∨ wq.heap.size ≤ b) := LN4
 clear LN4 o4 hF4 HX
 go_enter Tryz.func59, Tryz.ntmps59
 go_wp2_with fail
 rw [← hwq]
 clear hwq
 refine (HWm.out _ F4 hBq HO4.out).mono ?_
 rintro e w1 ⟨v1, F1, rfl, o1, m1', l1⟩
 obtain ⟨p4, q4, rfl⟩ := owns_form o1.1
 obtain ⟨Fc, oc, hFc⟩ := HLN4.out w1 F1 _ _ o1 m1' l1
 have HOc : Hid (shdR.O w1 base Fc (.agg #[.int .i64 d.idx, .slice a1 n1 c1, .slice a2 n2 c2, .slice a3 n3 c3, .slice p4 (putM d.done ⟨k, o⟩).length q4, .slice a5 n5 c5]) ⟨d.idx, d.bals, d.votes, d.held, putM d.done ⟨k, o⟩, d.appl⟩) := oc
 have HFc : Hid (∀ b, Fc b → b < w.heap.size ∨ w.heap.size + 3 ≤ b) := fun b hb => (hFc b hb).elim (fun h => .inl (HR.out b h).2) (fun h => by omega)
 have nz : ¬ F4 w.heap.size := fun h => by have := (HF4.out _ h).2; omega
 have nm : ¬ F4 (w.heap.size + 1) := fun h => by have := (HF4.out _ h).2; omega
 have nr : ¬ F4 (w.heap.size + 2) := fun h => by have := (HF4.out _ h).2; omega
 have hB1 : Below base w w1 := m1'.below (hBq.mono hbase) (by omega) (fun b hb => (HF4.out b hb).1)
 replace z0 := m1'.cell z0 nz
 replace z1 := m1'.cell z1 nz
 replace z2 := m1'.cell z2 nz
 replace z3 := m1'.cell z3 nz
 replace z4 := m1'.cell z4 nz
 replace z5 := m1'.cell z5 nz
 replace m0 := m1'.cell m0 nm
 replace m1 := m1'.cell m1 nm
 replace r0 := m1'.cell r0 nr
 replace r1 := m1'.cell r1 nr
 replace r2 := m1'.cell r2 nr
 replace r3 := m1'.cell r3 nr
 replace r4 := m1'.cell r4 nr
 replace r5 := m1'.cell r5 nr
 replace zf : ∀ o, World.frozen? w1 ⟨w.heap.size, o, none⟩ = false := fun o => (m1'.frz10 (a := ⟨w.heap.size, o, none⟩) (by dsimp only; omega) nz).trans (zf o)
 replace rf : ∀ o, World.frozen? w1 ⟨w.heap.size + 2, o, none⟩ = false := fun o => (m1'.frz10 (a := ⟨w.heap.size + 2, o, none⟩) (by dsimp only; omega) nr).trans (rf o)
 have zN1 : w.heap.size + 2 < w1.heap.size := Nat.lt_of_lt_of_le zNq m1'.size
 clear o1 m1' l1 oc hFc HLN4 HO4 HWm nz nm nr
 generalize (putM d.done ⟨k, o⟩).length = np at *
 go_wp2_with fail
 obtain ⟨V1, hEV1⟩ : ∃ W, W = w1.setCell ⟨w.heap.size, 4, none⟩ (.slice p4 np q4) := ⟨_, rfl⟩
 rw [← hEV1]
 have hmV1 : Mod (fun b => b = w.heap.size) w1 V1 := by rw [hEV1]; exact Mod.of_set w1 ⟨w.heap.size, 4, none⟩ _
 replace z0 : V1.cell? ⟨w.heap.size, 0, none⟩ = some (.int .i64 d.idx) := by rw [hEV1]; simp [go_sem, z0, zf]
 replace z1 : V1.cell? ⟨w.heap.size, 1, none⟩ = some (.slice a1 n1 c1) := by rw [hEV1]; simp [go_sem, z1, zf]
 replace z2 : V1.cell? ⟨w.heap.size, 2, none⟩ = some (.slice a2 n2 c2) := by rw [hEV1]; simp [go_sem, z2, zf]
 replace z3 : V1.cell? ⟨w.heap.size, 3, none⟩ = some (.slice a3 n3 c3) := by rw [hEV1]; simp [go_sem, z3, zf]
 replace z4 : V1.cell? ⟨w.heap.size, 4, none⟩ = some (.slice p4 np q4) := by rw [hEV1]; simp [go_sem, z4, zf]
 replace z5 : V1.cell? ⟨w.heap.size, 5, none⟩ = some (.slice a5 n5 c5) := by rw [hEV1]; simp [go_sem, z5, zf]
 replace zf : ∀ o, V1.frozen? ⟨w.heap.size, o, none⟩ = false := fun o => by rw [hEV1]; simp [go_sem, zf]
 clear hEV1
 replace m0 := hmV1.cell m0 (show w.heap.size + 1 ≠ w.heap.size by omega)
 replace m1 := hmV1.cell m1 (show w.heap.size + 1 ≠ w.heap.size by omega)
 replace r0 := hmV1.cell r0 (show w.heap.size + 2 ≠ w.heap.size by omega)
 replace r1 := hmV1.cell r1 (show w.heap.size + 2 ≠ w.heap.size by omega)
 replace r2 := hmV1.cell r2 (show w.heap.size + 2 ≠ w.heap.size by omega)
 replace r3 := hmV1.cell r3 (show w.heap.size + 2 ≠ w.heap.size by omega)
 replace r4 := hmV1.cell r4 (show w.heap.size + 2 ≠ w.heap.size by omega)
 replace r5 := hmV1.cell r5 (show w.heap.size + 2 ≠ w.heap.size by omega)
 replace rf : ∀ o, V1.frozen? ⟨w.heap.size + 2, o, none⟩ = false := fun o => (hmV1.frz10 (a := ⟨w.heap.size + 2, o, none⟩) (by dsimp only; omega) (show w.heap.size + 2 ≠ w.heap.size by omega)).trans (rf o)
 have zNV1 : w.heap.size + 2 < V1.heap.size := Nat.lt_of_lt_of_le (by omega) hmV1.size
 have HOv : Hid (shdR.O V1 base Fc (.agg #[.int .i64 d.idx, .slice a1 n1 c1, .slice a2 n2 c2, .slice a3 n3 c3, .slice p4 np q4, .slice a5 n5 c5]) ⟨d.idx, d.bals, d.votes, d.held, putM d.done ⟨k, o⟩, d.appl⟩) := shdR.mod HOc.out hmV1 (fun b hb e => by have := HFc.out b hb; omega)
 have hBV : Below base w V1 := hmV1.below hB1 (by omega) (fun b e => by rw [e]; exact hbase)
 clear hmV1 HOc hB1
 have HPl1 : Hid (Calls Tryz.prog 82 #[.slice a3 n3 c3, .int .i64 k] V1 (PlC d.held k V1)) := by
  obtain ⟨G, hG, _⟩ := shd_held (d := ⟨d.idx, d.bals, d.votes, d.held, putM d.done ⟨k, o⟩, d.appl⟩) HOv.out
  exact HPl.out V1 _ (contsR.ofO hG)
 refine HPl1.out.mono ?_
 rintro e W1 ⟨i, hi, rfl, p1, p2, hbP⟩
 have HO : Hid (shdR.O W1 base Fc (.agg #[.int .i64 d.idx, .slice a1 n1 c1, .slice a2 n2 c2, .slice a3 n3 c3, .slice p4 np q4, .slice a5 n5 c5]) ⟨d.idx, d.bals, d.votes, d.held, putM d.done ⟨k, o⟩, d.appl⟩) := shdR.keep HOv.out hbP
 have hBW : Below base w W1 := Below.trans hBV (hbP.mono (by omega))
 have HH := HHi.out i p1 p2
 replace z0 := cK hbP z0
 replace z1 := cK hbP z1
 replace z2 := cK hbP z2
 replace z3 := cK hbP z3
 replace z4 := cK hbP z4
 replace z5 := cK hbP z5
 replace m0 := cK hbP m0
 replace m1 := cK hbP m1
 replace r0 := cK hbP r0
 replace r1 := cK hbP r1
 replace r2 := cK hbP r2
 replace r3 := cK hbP r3
 replace r4 := cK hbP r4
 replace r5 := cK hbP r5
 replace zf : ∀ o, World.frozen? W1 ⟨w.heap.size, o, none⟩ = false := fun o => by rw [(bcell hbP).2 _ _ (by omega)]; exact zf o
 replace rf : ∀ o, World.frozen? W1 ⟨w.heap.size + 2, o, none⟩ = false := fun o => by rw [(bcell hbP).2 _ _ (by omega)]; exact rf o
 have zNW1 : w.heap.size + 2 < W1.heap.size := by have := hbP.size; omega
 clear hbP HOv hBV HPl HPl1 HHi
 by_cases hfd : i < d.held.length ∧ (d.held.getD i default).id = k
 rotate_left
 ·
  rw [decide_eq_false hfd] at HH ⊢
  have HC : Hid (decS d k o = ⟨d.idx, d.bals, d.votes, d.held, putM d.done ⟨k, o⟩, d.appl⟩) := HOu.out HH
  clear HOu HH hfd p1 p2 hi
  go_wp2
  refine bodyPost_ret (v := .agg #[.int .i64 d.idx, .slice a1 n1 c1, .slice a2 n2 c2, .slice a3 n3 c3, .slice p4 np q4, .slice a5 n5 c5]) (by simp [results, Tryz.results59, go_sem, r0, r1, r2, r3, r4, r5, rf]) rfl ?_
  have hbN : base ≤ w.heap.size := hbase
  have hbR : base ≤ w.heap.size + 2 := by omega
  rw [HC.out]
  exact ⟨_, Fc, rfl, setR6 shdR (HO.out) (fun h => by have := HFc.out _ h; omega) _ _ _ _ _ _, ((((((hBW).setCell (p := ⟨w.heap.size + 2, 0, none⟩) hbR _).setCell (p := ⟨w.heap.size + 2, 1, none⟩) hbR _).setCell (p := ⟨w.heap.size + 2, 2, none⟩) hbR _).setCell (p := ⟨w.heap.size + 2, 3, none⟩) hbR _).setCell (p := ⟨w.heap.size + 2, 4, none⟩) hbR _).setCell (p := ⟨w.heap.size + 2, 5, none⟩) hbR _⟩
 rw [decide_eq_true hfd]
 clear HOu HH
 by_cases ho1 : o = 1
 rotate_left
 ·
  have HC : Hid (decS d k o = ⟨d.idx, d.bals, d.votes, leftC k d.held, putM d.done ⟨k, o⟩, d.appl⟩) := decS_not ho1
  have ho' : (o == 1) = false := by simpa using ho1
  clear hfd p1 p2 ho1
  go_wp2_with fail
  obtain ⟨G3, o3, hG3, LN3⟩ := shd_held (d := ⟨d.idx, d.bals, d.votes, d.held, putM d.done ⟨k, o⟩, d.appl⟩) HO.out
  have HLN3 : Hid (∀ (w' : World) (Fj' : Nat → Prop) (v : Value) (ys : List Cont), contsR.O w' base Fj' v ys → Mod G3 W1 w' → (∀ b, Fj' b → G3 b ∨ W1.heap.size ≤ b) → ∃ F', shdR.O w' base F' (.agg #[.int .i64 d.idx, .slice a1 n1 c1, .slice a2 n2 c2, v, .slice p4 np q4, .slice a5 n5 c5]) ⟨d.idx, d.bals, d.votes, ys, putM d.done ⟨k, o⟩, d.appl⟩ ∧ ∀ b, F' b → Fc b ∨ W1.heap.size ≤ b) := LN3
  have HO3 : Hid (contsR.O W1 base G3 (.slice a3 n3 c3) d.held) := o3
  clear LN3 o3 hG3
  have HLf : Hid (Calls Tryz.prog 98 #[.slice a3 n3 c3, .func (.func 99) #[] #[.pointer (some ⟨w.heap.size + 1, 0, none⟩)]] W1 fun e w' => ∃ v F', e = .returned v ∧ contsR.O w' base F' v (leftC k d.held) ∧ Below W1.heap.size W1 w' ∧ ∀ b, F' b → G3 b ∨ W1.heap.size ≤ b) := leftOf_u _ d.held k (w.heap.size + 1) base G3 W1 HO3.out m0 (by omega) HLh.out
  refine HLf.out.mono ?_
  rintro e w8 ⟨v8, F8, rfl, o8, hb8, hF8⟩
  obtain ⟨F9, o9, hF9⟩ := HLN3.out w8 F8 _ _ o8 (Mod.of_below hb8) hF8
  obtain ⟨p8, q8, e8⟩ := conts_form (contsR.ofO o8)
  subst e8
  have HO8 : Hid (shdR.O w8 base F9 (.agg #[.int .i64 d.idx, .slice a1 n1 c1, .slice a2 n2 c2, .slice p8 (leftC k d.held).length q8, .slice p4 np q4, .slice a5 n5 c5]) ⟨d.idx, d.bals, d.votes, leftC k d.held, putM d.done ⟨k, o⟩, d.appl⟩) := o9
  have HF9 : Hid (∀ b, F9 b → b < w.heap.size ∨ w.heap.size + 3 ≤ b) := fun b hb => (hF9 b hb).elim (fun h => HFc.out b h) (fun h => by omega)
  have hB8 : Below base w w8 := Below.trans hBW (hb8.mono (by omega))
  generalize (leftC k d.held).length = m8 at *
  replace z0 := cK hb8 z0
  replace z1 := cK hb8 z1
  replace z2 := cK hb8 z2
  replace z3 := cK hb8 z3
  replace z4 := cK hb8 z4
  replace z5 := cK hb8 z5
  replace m0 := cK hb8 m0
  replace m1 := cK hb8 m1
  replace r0 := cK hb8 r0
  replace r1 := cK hb8 r1
  replace r2 := cK hb8 r2
  replace r3 := cK hb8 r3
  replace r4 := cK hb8 r4
  replace r5 := cK hb8 r5
  replace zf : ∀ o, World.frozen? w8 ⟨w.heap.size, o, none⟩ = false := fun o => by rw [(bcell hb8).2 _ _ (by omega)]; exact zf o
  replace rf : ∀ o, World.frozen? w8 ⟨w.heap.size + 2, o, none⟩ = false := fun o => by rw [(bcell hb8).2 _ _ (by omega)]; exact rf o
  have zN8 : w.heap.size + 2 < w8.heap.size := by have := hb8.size; omega
  clear o8 hb8 hF8 o9 hF9 HLN3 HO3 HLf HO HFc hBW
  go_wp2
  refine bodyPost_ret (v := .agg #[.int .i64 d.idx, .slice a1 n1 c1, .slice a2 n2 c2, .slice p8 m8 q8, .slice p4 np q4, .slice a5 n5 c5]) (by simp [results, Tryz.results59, go_sem, r0, r1, r2, r3, r4, r5, rf]) rfl ?_
  have hbN : base ≤ w.heap.size := hbase
  have hbR : base ≤ w.heap.size + 2 := by omega
  rw [HC.out]
  exact ⟨_, F9, rfl, setR6 shdR (setR1 shdR HO8.out (fun h => by have := HF9.out _ h; omega) _) (fun h => by have := HF9.out _ h; omega) _ _ _ _ _ _, (((((((hB8).setCell (p := ⟨w.heap.size, 3, none⟩) hbN _).setCell (p := ⟨w.heap.size + 2, 0, none⟩) hbR _).setCell (p := ⟨w.heap.size + 2, 1, none⟩) hbR _).setCell (p := ⟨w.heap.size + 2, 2, none⟩) hbR _).setCell (p := ⟨w.heap.size + 2, 3, none⟩) hbR _).setCell (p := ⟨w.heap.size + 2, 4, none⟩) hbR _).setCell (p := ⟨w.heap.size + 2, 5, none⟩) hbR _⟩
 obtain ⟨hif, hik⟩ := hfd
 have hi1 : (i : Int) < n3 := by rw [HN.out] at hif; omega
 have hi2 : (0 : Int) ≤ i := by omega
 have HLg : Hid (legsOf k d.held = (d.held.getD i default).legs) := heldIn_legs hif hik p1
 have HC : Hid (decS d k o = ⟨d.idx, addB d.bals (onSh d.idx (d.held.getD i default).legs), d.votes, leftC k d.held, putM d.done ⟨k, o⟩, d.appl ++ [k]⟩) := decS_one ho1 HLg.out
 have hfl : ∀ l ∈ (d.held.getD i default).legs, legFault l = 0 := HOK.out.held.fault hif
 have h8l : (d.held.getD i default).legs.length ≤ 8 := HOK.out.held.len hif
 have HGS : Hid (ledFault ⟨hereG d.idx d.bals⟩ = 0) := hereG_ok (base_idx HOK.out.base).2
 have HIx : Hid (0 ≤ d.idx ∧ d.idx ≤ 2) := (base_idx HOK.out.base).1
 have HST : Hid ((1 ≤ (hereG d.idx d.bals).length ∧ (hereG d.idx d.bals).length ≤ 3) ∧ _) := settle_facts2 (g := ⟨hereG d.idx d.bals⟩) (ls := onSh d.idx (d.held.getD i default).legs) HGS.out (fun l hl => ⟨hfl l (List.mem_filter.1 hl).1, by
  have h2 := (List.mem_filter.1 hl).2
  simp only [beq_iff_eq] at h2
  show l.sh < ((hereG d.idx d.bals).length : Int)
  have : (hereG d.idx d.bals).length = 3 := rfl
  have := HIx.out
  omega⟩) (Nat.le_trans (List.length_filter_le _ _) h8l)
 have HVV : Hid (shdR.V W1 (.agg #[.int .i64 d.idx, .slice a1 n1 c1, .slice a2 n2 c2, .slice a3 n3 c3, .slice p4 np q4, .slice a5 n5 c5]) ⟨d.idx, d.bals, d.votes, d.held, putM d.done ⟨k, o⟩, d.appl⟩) := shdR.ofO HO.out
 obtain ⟨bx, ox, pp, qq, g0, g1, hV⟩ : ∃ bx ox pp qq, W1.cell? ⟨bx, ox + i * 2, none⟩ = some (.int .i64 (d.held.getD i default).id) ∧ W1.cell? ⟨bx, ox + i * 2 + 1, none⟩ = some (.slice pp (d.held.getD i default).legs.length qq) ∧ (a3 = some ⟨bx, ox, none⟩ ∧ legsR.V W1 (.slice pp (d.held.getD i default).legs.length qq) (d.held.getD i default).legs) := by
  obtain ⟨v1, v2, v3, v4, v5, e, _, _, h3, _⟩ := HVV.out
  simp only [Value.agg.injEq, Array.mk.injEq, List.cons.injEq, and_true, true_and] at e
  obtain ⟨_, _, rfl, _⟩ := e
  obtain ⟨a, c, e3, _, _, hx3⟩ := conts_at h3
  obtain ⟨b, o', p, q, ea, c0, c1, hv⟩ := hx3 i hif
  simp only [Value.slice.injEq] at e3
  obtain ⟨rfl, _⟩ := e3
  obtain ⟨u, eu, hu⟩ := hv
  simp only [Value.agg.injEq, Array.mk.injEq, List.cons.injEq, and_true, true_and] at eu
  exact ⟨b, o', p, q, c0, c1, ea, by rw [eu]; exact hu⟩
 obtain ⟨ea3, hVl⟩ := hV
 subst ea3
 have HVL : Hid (∀ W, Below W1.heap.size W1 W → legsR.V W (.slice pp (d.held.getD i default).legs.length qq) (d.held.getD i default).legs) := fun W hW => legsR.below hVl hW
 have HBo : Hid (∀ W, Below W1.heap.size W1 W → Calls Tryz.prog 81 #[.agg #[.int .i64 d.idx, .slice a1 n1 c1, .slice a2 n2 c2, .slice (some ⟨bx, ox, none⟩) n3 c3, .slice p4 np q4, .slice a5 n5 c5]] W fun e w' => ∃ b, e = .returned (.agg #[.int .i64 3, .map (some b)]) ∧ W.heap.size ≤ b ∧ Book w' b 54 (bookF (hereG d.idx d.bals)) ∧ Below W.heap.size W w') := fun W hW => bookHere_any _ ⟨d.idx, d.bals, d.votes, d.held, putM d.done ⟨k, o⟩, d.appl⟩ W (shdR.below HVV.out hW) HOK.out.base
 have HLo : Hid (∀ W, Below W1.heap.size W1 W → Calls Tryz.prog 73 #[.slice pp (d.held.getD i default).legs.length qq, .int .i64 d.idx] W fun e w' => ∃ v, e = .returned v ∧ w'.ownsRow W.heap.size 93 4 v (onSh d.idx (d.held.getD i default).legs).length (legsC (onSh d.idx (d.held.getD i default).legs)) ∧ Below W.heap.size W w') := fun W hW => legsOn_any _ _ _ W (HVL.out W hW) (by omega)
 have HAd : Hid (∀ W b y, Book W b 54 (bookF (hereG d.idx d.bals)) → legsR.V W y (onSh d.idx (d.held.getD i default).legs) → Calls Tryz.prog 96 #[.agg #[.int .i64 3, .map (some b)], y] W fun e w' => e = .returned (.tuple #[]) ∧ ∃ m', Book w' b m' (addLs (bookF (hereG d.idx d.bals)) (onSh d.idx (d.held.getD i default).legs)) ∧ Mod (fun i => i = b) W w') := fun W b y hB hy => by
  obtain ⟨_, _, _, _, h5⟩ := HST.out
  refine (bookAdd_any 3 b 54 _ _ _ W hB hy (by have := List.length_filter_le (fun l : Leg => l.sh == d.idx) (d.held.getD i default).legs; unfold onSh; omega) h5).mono ?_
  rintro e w' ⟨rfl, m', _, h1, h2⟩
  exact ⟨rfl, m', h1, h2⟩
 have HLd : Hid (∀ W b m, Book W b m (addLs (bookF (hereG d.idx d.bals)) (onSh d.idx (d.held.getD i default).legs)) → Calls Tryz.prog 97 #[.agg #[.int .i64 3, .map (some b)]] W fun e w' => ∃ v F, e = .returned (.agg #[v]) ∧ balssR.O w' W.heap.size F v (settleL (hereG d.idx d.bals) (onSh d.idx (d.held.getD i default).legs)) ∧ Below W.heap.size W w') := fun W b m hB => by
  obtain ⟨⟨h1, h3⟩, hr, hk, hs, h5⟩ := HST.out
  have hd := kdom_settle hr hk hs
  refine (bookLedger_any 3 b m _ W hB (by omega) (by omega) hd).mono ?_
  rintro e w' ⟨v, F, ys, rfl, hD, hP, hO, hb⟩
  refine ⟨v, F, rfl, ?_, hb⟩
  rw [← lay_settled hr hk (by show (hereG d.idx d.bals).length ≤ 200; omega) hd hD hP (hs' := (List.range 3).map (shK (addLs (bookF (hereG d.idx d.bals)) (onSh d.idx (d.held.getD i default).legs)) ys)) (by simp [hereG]) (fun i hi => by
   have hi3 : i < 3 := hi
   simp [List.getD, hi3])]
  exact hO
 have HSe : Hid ((settleL (hereG d.idx d.bals) (onSh d.idx (d.held.getD i default).legs)).getD d.idx.toNat default = addB d.bals (onSh d.idx (d.held.getD i default).legs)) := here_settle HIx.out
 have HSl : Hid ((settleL (hereG d.idx d.bals) (onSh d.idx (d.held.getD i default).legs)).length = 3) := by show _ = _; rw [settleL_len]; rfl
 have ho' : (o == 1) = true := by simp [ho1]
 obtain ⟨ix, hix⟩ : ∃ ix : Nat, d.idx = (ix : Int) := ⟨d.idx.toNat, by have := HIx.out; omega⟩
 have hixl : ix < 3 := by have := HIx.out; omega
 have HIX : Hid (d.idx = (ix : Int) ∧ d.idx.toNat = ix) := ⟨hix, by omega⟩
 have zbx0 := wL W1 _ g1
 dsimp only at zbx0
 clear hfl hVl g0 HST HGS hik p1 p2 HVV ho1 hix
 try clear HLg
 generalize hll : (d.held.getD i default).legs.length = ll at *
 clear hll h8l
 go_wp2_with fail
 refine (HBo.out _ (Below.refl _ _)).mono ?_
 rintro e w2 ⟨b, rfl, hbb, hbk, hb2⟩
 have HBk : Hid (Book w2 b 54 (bookF (hereG d.idx d.bals))) := hbk
 have zb := hbk.lt
 clear hbk HBo
 have HO2 : Hid (shdR.O w2 base Fc (.agg #[.int .i64 d.idx, .slice a1 n1 c1, .slice a2 n2 c2, .slice (some ⟨bx, ox, none⟩) n3 c3, .slice p4 np q4, .slice a5 n5 c5]) ⟨d.idx, d.bals, d.votes, d.held, putM d.done ⟨k, o⟩, d.appl⟩) := shdR.keep HO.out hb2
 have hB2 : Below base w w2 := Below.trans hBW (hb2.mono (by omega))
 replace z0 := cK hb2 z0
 replace z1 := cK hb2 z1
 replace z2 := cK hb2 z2
 replace z3 := cK hb2 z3
 replace z4 := cK hb2 z4
 replace z5 := cK hb2 z5
 replace m0 := cK hb2 m0
 replace m1 := cK hb2 m1
 replace r0 := cK hb2 r0
 replace r1 := cK hb2 r1
 replace r2 := cK hb2 r2
 replace r3 := cK hb2 r3
 replace r4 := cK hb2 r4
 replace r5 := cK hb2 r5
 replace zf : ∀ o, World.frozen? w2 ⟨w.heap.size, o, none⟩ = false := fun o => by rw [(bcell hb2).2 _ _ (by omega)]; exact zf o
 replace rf : ∀ o, World.frozen? w2 ⟨w.heap.size + 2, o, none⟩ = false := fun o => by rw [(bcell hb2).2 _ _ (by omega)]; exact rf o
 replace g1 := cK hb2 g1
 have zN2 : w.heap.size + 2 < w2.heap.size := by have := hb2.size; omega
 have zbx : bx < w2.heap.size := wL w2 _ g1
 go_wp2
 obtain ⟨w3, hw3⟩ : ∃ w3, w3 = w2.alloc (.cells #[.int .i64 3, .map (some b)] 115) := ⟨_, rfl⟩
 have hb3 : Below w2.heap.size w2 w3 := by rw [hw3]; (repeat (first | exact bR _ _ | assumption | refine bD ?_ | refine bA ?_ _ | refine bset ?_ (by simp; omega) _ | refine bset ?_ (by simp) _ | refine bS ?_ (by assumption)))
 have k0 : w3.cell? ⟨w2.heap.size, 0, none⟩ = some (.int .i64 3) := by rw [hw3]; simp [go_sem]
 have k1 : w3.cell? ⟨w2.heap.size, 1, none⟩ = some (.map (some b)) := by rw [hw3]; simp [go_sem]
 rw [← hw3]
 clear hw3
 have HBk3 : Hid (Book w3 b 54 (bookF (hereG d.idx d.bals))) := HBk.out.below hb3
 have HO3' : Hid (shdR.O w3 base Fc (.agg #[.int .i64 d.idx, .slice a1 n1 c1, .slice a2 n2 c2, .slice (some ⟨bx, ox, none⟩) n3 c3, .slice p4 np q4, .slice a5 n5 c5]) ⟨d.idx, d.bals, d.votes, d.held, putM d.done ⟨k, o⟩, d.appl⟩) := shdR.keep HO2.out hb3
 have hB3 : Below base w w3 := Below.trans hB2 (hb3.mono (by omega))
 have hb13 : Below W1.heap.size W1 w3 := bS hb2 hb3
 replace z0 := cK hb3 z0
 replace z1 := cK hb3 z1
 replace z2 := cK hb3 z2
 replace z3 := cK hb3 z3
 replace z4 := cK hb3 z4
 replace z5 := cK hb3 z5
 replace m0 := cK hb3 m0
 replace m1 := cK hb3 m1
 replace r0 := cK hb3 r0
 replace r1 := cK hb3 r1
 replace r2 := cK hb3 r2
 replace r3 := cK hb3 r3
 replace r4 := cK hb3 r4
 replace r5 := cK hb3 r5
 replace zf : ∀ o, World.frozen? w3 ⟨w.heap.size, o, none⟩ = false := fun o => by rw [(bcell hb3).2 _ _ (by omega)]; exact zf o
 replace rf : ∀ o, World.frozen? w3 ⟨w.heap.size + 2, o, none⟩ = false := fun o => by rw [(bcell hb3).2 _ _ (by omega)]; exact rf o
 replace g1 := cK hb3 g1
 have zN3 : w.heap.size + 2 < w3.heap.size := by have := hb3.size; omega
 have zk : w2.heap.size < w3.heap.size := wL w3 _ k0
 have nbk : w2.heap.size ≠ b := by omega
 clear HBk HO2 hB2 hb3
 have hbd3 : Below w3.heap.size w3 w3.drew := qBq
 refine wp_region_noPanic ?_
 refine region_upto (fun W => Mod (fun j => j = b) w3 W ∧ W.cell? ⟨w2.heap.size, 0, none⟩ = some (.int .i64 3) ∧ W.cell? ⟨w2.heap.size, 1, none⟩ = some (.map (some b)) ∧ W.cell? ⟨w.heap.size, 3, none⟩ = some (.slice (some ⟨bx, ox, none⟩) n3 c3) ∧ W.cell? ⟨bx, ox + i * 2 + 1, none⟩ = some (.slice pp ll qq) ∧ W.cell? ⟨w.heap.size, 0, none⟩ = some (.int .i64 d.idx)) 11 (by kernel_rfl) ⟨Mod.of_below hbd3, cK hbd3 k0, cK hbd3 k1, cK hbd3 z3, cK hbd3 g1, cK hbd3 z0⟩ (fun hS => ?_)
 refine tN (i := 0) (v := ?_) rfl (by kernel_rfl) hS ?_ ?_
 rotate_left
 ·
  intro wS hSw; (try dsimp only at hSw); go_simp; try with_reducible rfl
 try simp only [Act.put, jA, jB, jC, jD, jE, jF]
 refine tN (i := 1) (v := ?_) rfl (by kernel_rfl) hS ?_ ?_
 rotate_left
 ·
  intro wS hSw; (try dsimp only at hSw); go_simp; try with_reducible rfl
 try simp only [Act.put, jA, jB, jC, jD, jE, jF]
 refine tN (i := 2) (v := ?_) rfl (by kernel_rfl) hS ?_ ?_
 rotate_left
 ·
  intro wS hSw; (try dsimp only at hSw); go_simp; try with_reducible rfl
 try simp only [Act.put, jA, jB, jC, jD, jE, jF]
 refine tN (i := 3) (v := ?_) rfl (by kernel_rfl) hS ?_ ?_
 rotate_left
 ·
  intro wS hSw; (try dsimp only at hSw); go_simp; try with_reducible rfl
 try simp only [Act.put, jA, jB, jC, jD, jE, jF]
 refine tN (i := 4) (v := ?_) rfl (by kernel_rfl) hS ?_ ?_
 rotate_left
 ·
  intro wS hSw; (try dsimp only at hSw); go_simp; try with_reducible rfl
 try simp only [Act.put, jA, jB, jC, jD, jE, jF]
 refine tN (i := 5) (v := ?_) rfl (by kernel_rfl) hS ?_ ?_
 rotate_left
 ·
  intro wS hSw; (try dsimp only at hSw); go_simp; try with_reducible rfl
 try simp only [Act.put, jA, jB, jC, jD, jE, jF]
 refine tN (i := 6) (v := ?_) rfl (by kernel_rfl) hS ?_ ?_
 rotate_left
 ·
  intro wS hSw; (try dsimp only at hSw); go_simp; try with_reducible rfl
 try simp only [Act.put, jA, jB, jC, jD, jE, jF]
 refine tN (i := 7) (v := ?_) rfl (by kernel_rfl) hS ?_ ?_
 rotate_left
 ·
  intro wS hSw; (try dsimp only at hSw); go_simp; try with_reducible rfl
 try simp only [Act.put, jA, jB, jC, jD, jE, jF]
 refine tN (i := 8) (v := ?_) rfl (by kernel_rfl) hS ?_ ?_
 rotate_left
 ·
  intro wS hSw; (try dsimp only at hSw); go_simp; try with_reducible rfl
 try simp only [Act.put, jA, jB, jC, jD, jE, jF]
 refine upto_step (i := 9) (by kernel_rfl) rfl ?_
 intro K hK
 go_simp
 refine (HLo.out _ (bS hb13 hbd3)).mono ?_
 rintro e w4 ⟨v4, rfl, o4, hb4⟩
 obtain ⟨al, cl, rfl⟩ := owns_form o4
 have hb34 : Below w3.heap.size w3 w4 := bS hbd3 hb4
 have HVo : Hid (legsR.V w4 (.slice al (onSh d.idx (d.held.getD i default).legs).length cl) (onSh d.idx (d.held.getD i default).legs)) := LegsV_of_owns o4
 refine hK _ _ (fun _ => ⟨Mod.of_below hb34, cK hb34 k0, cK hb34 k1, cK hb34 z3, cK hb34 g1, cK hb34 z0⟩) ?_
 clear hK K hS o4 hb4
 generalize hol : (onSh d.idx (d.held.getD i default).legs).length = ol at *
 clear hol
 try simp only [Act.put, jA, jB, jC, jD, jE, jF]
 refine upto_step (i := 10) (by kernel_rfl) rfl ?_
 intro K hK
 go_simp
 refine (HAd.out _ b _ (HBk3.out.below hb34) HVo.out).mono ?_
 rintro e w5 ⟨rfl, m5, hbk5, hm5⟩
 have hm35 : Mod (fun j => j = b) w3 w5 := (Mod.of_below hb34).trans hm5
 have nz : w.heap.size ≠ b := by omega
 have nm : w.heap.size + 1 ≠ b := by omega
 have nr : w.heap.size + 2 ≠ b := by omega
 have nx : bx ≠ b := by omega
 refine hK _ _ (fun _ => ⟨hm35, hm35.cell k0 nbk, hm35.cell k1 nbk, hm35.cell z3 nz, hm35.cell g1 nx, hm35.cell z0 nz⟩) ?_
 clear hK K
 have HBk5 : Hid (Book w5 b m5 (addLs (bookF (hereG d.idx d.bals)) (onSh d.idx (d.held.getD i default).legs))) := hbk5
 have nFc : ¬ Fc b := fun h => by have := (shdR.rng HO.out b h).2; omega
 have HO5 : Hid (shdR.O w5 base Fc (.agg #[.int .i64 d.idx, .slice a1 n1 c1, .slice a2 n2 c2, .slice (some ⟨bx, ox, none⟩) n3 c3, .slice p4 np q4, .slice a5 n5 c5]) ⟨d.idx, d.bals, d.votes, d.held, putM d.done ⟨k, o⟩, d.appl⟩) := shdR.mod HO3'.out hm35 (fun b' hb' e => nFc (e ▸ hb'))
 have hB5 : Below base w w5 := hm35.below hB3 (by omega) (fun b' e => by rw [e]; omega)
 replace k0 := hm35.cell k0 nbk
 replace k1 := hm35.cell k1 nbk
 replace z0 := hm35.cell z0 nz
 replace z1 := hm35.cell z1 nz
 replace z2 := hm35.cell z2 nz
 replace z3 := hm35.cell z3 nz
 replace z4 := hm35.cell z4 nz
 replace z5 := hm35.cell z5 nz
 replace m0 := hm35.cell m0 nm
 replace m1 := hm35.cell m1 nm
 replace r0 := hm35.cell r0 nr
 replace r1 := hm35.cell r1 nr
 replace r2 := hm35.cell r2 nr
 replace r3 := hm35.cell r3 nr
 replace r4 := hm35.cell r4 nr
 replace r5 := hm35.cell r5 nr
 replace zf : ∀ o, World.frozen? w5 ⟨w.heap.size, o, none⟩ = false := fun o => (hm35.frz10 (a := ⟨w.heap.size, o, none⟩) (by dsimp only; omega) nz).trans (zf o)
 replace rf : ∀ o, World.frozen? w5 ⟨w.heap.size + 2, o, none⟩ = false := fun o => (hm35.frz10 (a := ⟨w.heap.size + 2, o, none⟩) (by dsimp only; omega) nr).trans (rf o)
 have zN5 : w.heap.size + 2 < w5.heap.size := Nat.lt_of_lt_of_le zN3 hm35.size
 have z35 := hm35.size
 clear hbk5 hm5 hm35 HBk3 HO3' hB3 HVo HAd HLo g1 hb34
 try simp only [Act.put, jA, jB, jC, jD, jE, jF]
 refine upto_done (by kernel_rfl) ?_
 refine NoPanic.normal ?_
 go_wp2
 refine wp_region_noPanic ?_
 have hbd5 : Below w5.heap.size w5 w5.drew := qBq
 refine region_upto (fun W => Below w5.heap.size w5 W ∧ W.cell? ⟨w2.heap.size, 0, none⟩ = some (.int .i64 3) ∧ W.cell? ⟨w2.heap.size, 1, none⟩ = some (.map (some b)) ∧ W.cell? ⟨w.heap.size, 0, none⟩ = some (.int .i64 d.idx)) 8 (by kernel_rfl) ⟨hbd5, cK hbd5 k0, cK hbd5 k1, cK hbd5 z0⟩ (fun hS => ?_)
 refine tK (i := 0) (v := ?_) rfl (by kernel_rfl) hS ?_ ?_
 rotate_left
 ·
  intro wS hSw; (try dsimp only at hSw); go_simp; try with_reducible rfl
 try simp only [Act.put, jA, jB, jC, jD, jE, jF]
 refine tK (i := 3) (v := ?_) rfl (by kernel_rfl) hS ?_ ?_
 rotate_left
 ·
  intro wS hSw; (try dsimp only at hSw); go_simp; try with_reducible rfl
 try simp only [Act.put, jA, jB, jC, jD, jE, jF]
 refine tK (i := 4) (v := ?_) rfl (by kernel_rfl) hS ?_ ?_
 rotate_left
 ·
  intro wS hSw; (try dsimp only at hSw); go_simp; try with_reducible rfl
 try simp only [Act.put, jA, jB, jC, jD, jE, jF]
 refine upto_step (i := 1) (by kernel_rfl) rfl ?_
 intro K hK
 go_simp
 refine (HLd.out _ b m5 (HBk5.out.below hbd5)).mono ?_
 rintro e w6 ⟨v6, F6, rfl, o6, hb6⟩
 have hb56 : Below w5.heap.size w5 w6 := bS hbd5 hb6
 obtain ⟨gg, cg, pb, mb, qb, Fb, e6, gc, ob, hFb⟩ := balss_at o6 (i := ix) (by rw [HSl.out]; exact hixl)
 rw [HSl.out] at e6
 rw [show (settleL (hereG d.idx d.bals) (onSh d.idx (d.held.getD i default).legs)).getD ix default = addB d.bals (onSh d.idx (d.held.getD i default).legs) by rw [← HIX.out.2]; exact HSe.out] at ob
 subst e6
 have HRb : Hid (∀ b', Fb b' → w5.heap.size ≤ b') := fun b' hb' => by have := (balssR.rng o6 b' (hFb b' hb')).1; have := hbd5.size; omega
 have HOb : Hid (balsR.O w6 base Fb (.slice pb mb qb) (addB d.bals (onSh d.idx (d.held.getD i default).legs))) := balsR.base ob (by have := hbd5.size; omega)
 refine hK _ _ (fun _ => ⟨hb56, cK hb56 k0, cK hb56 k1, cK hb56 z0⟩) ?_
 clear hK K hS o6 hb6 ob hFb HLd HBk5
 have hix' : d.idx = (ix : Int) := HIX.out.1
 have hS6 := And.intro hb56 (And.intro (cK hb56 k0) (And.intro (cK hb56 k1) (cK hb56 z0)))
 have ixn : (ix : Int) < 3 := by omega
 have ixp : (0 : Int) ≤ ix := by omega
 try simp only [Act.put, jA, jB, jC, jD, jE, jF]
 refine upto_step (i := 2) (by kernel_rfl) rfl ?_
 intro K hK
 go_simp
 refine hK _ _ (fun _ => hS6) ?_
 clear hK K
 try simp only [Act.put, jA, jB, jC, jD, jE, jF]
 refine upto_step (i := 5) (by kernel_rfl) rfl ?_
 intro K hK
 rw [hix'] at *
 go_simp
 refine hK _ _ (fun _ => hS6) ?_
 clear hK K
 try simp only [Act.put, jA, jB, jC, jD, jE, jF]
 refine upto_step (i := 6) (by kernel_rfl) rfl ?_
 intro K hK
 go_simp
 refine hK _ _ (fun _ => hS6) ?_
 clear hK K
 try simp only [Act.put, jA, jB, jC, jD, jE, jF]
 refine upto_step (i := 7) (by kernel_rfl) rfl ?_
 intro K hK
 go_simp
 refine hK _ _ (fun _ => hS6) ?_
 clear hK K
 replace z0 := cK hb56 z0
 replace z1 := cK hb56 z1
 replace z2 := cK hb56 z2
 replace z3 := cK hb56 z3
 replace z4 := cK hb56 z4
 replace z5 := cK hb56 z5
 replace m0 := cK hb56 m0
 replace m1 := cK hb56 m1
 replace r0 := cK hb56 r0
 replace r1 := cK hb56 r1
 replace r2 := cK hb56 r2
 replace r3 := cK hb56 r3
 replace r4 := cK hb56 r4
 replace r5 := cK hb56 r5
 replace zf : ∀ o, World.frozen? w6 ⟨w.heap.size, o, none⟩ = false := fun o => by rw [(bcell hb56).2 _ _ (by omega)]; exact zf o
 replace rf : ∀ o, World.frozen? w6 ⟨w.heap.size + 2, o, none⟩ = false := fun o => by rw [(bcell hb56).2 _ _ (by omega)]; exact rf o
 have zN6 : w.heap.size + 2 < w6.heap.size := by have := hb56.size; omega
 obtain ⟨G1, og1, hG1, LN1⟩ := shd_bals (d := ⟨d.idx, d.bals, d.votes, d.held, putM d.done ⟨k, o⟩, d.appl⟩) HO5.out
 obtain ⟨F7, o7, hF7⟩ := LN1 w6 Fb _ _ HOb.out (Mod.of_below hb56) (fun b' hb' => .inr (HRb.out b' hb'))
 have HO7 : Hid (shdR.O w6 base F7 (.agg #[.int .i64 d.idx, .slice pb mb qb, .slice a2 n2 c2, .slice (some ⟨bx, ox, none⟩) n3 c3, .slice p4 np q4, .slice a5 n5 c5]) ⟨d.idx, addB d.bals (onSh d.idx (d.held.getD i default).legs), d.votes, d.held, putM d.done ⟨k, o⟩, d.appl⟩) := o7
 have HF7 : Hid (∀ b', F7 b' → b' < w.heap.size ∨ w.heap.size + 3 ≤ b') := fun b' hb' => (hF7 b' hb').elim (fun h => HFc.out b' h) (fun h => by omega)
 have hB6 : Below base w w6 := Below.trans hB5 (hb56.mono (by omega))
 clear o7 hF7 LN1 og1 hG1 HOb HRb HO5 hb56 hB5 HO HFc hBW
 try simp only [Act.put, jA, jB, jC, jD, jE, jF]
 refine upto_step (i := 8) (by kernel_rfl) rfl ?_
 intro K hK
 go_simp
 refine hK _ _ (fun h => absurd rfl h) ?_
 clear hK K hS6
 refine upto_done (by kernel_rfl) ?_
 refine NoPanic.normal ?_
 obtain ⟨W6, hEW6⟩ : ∃ W, W = w6.setCell ⟨w.heap.size, 1, none⟩ (.slice pb mb qb) := ⟨_, rfl⟩
 rw [← hEW6]
 have hmW6 : Mod (fun b => b = w.heap.size) w6 W6 := by rw [hEW6]; exact Mod.of_set w6 ⟨w.heap.size, 1, none⟩ _
 replace z0 : W6.cell? ⟨w.heap.size, 0, none⟩ = some (.int .i64 d.idx) := by rw [hEW6]; simp [go_sem, z0, zf]
 replace z1 : W6.cell? ⟨w.heap.size, 1, none⟩ = some (.slice pb mb qb) := by rw [hEW6]; simp [go_sem, z1, zf]
 replace z2 : W6.cell? ⟨w.heap.size, 2, none⟩ = some (.slice a2 n2 c2) := by rw [hEW6]; simp [go_sem, z2, zf]
 replace z3 : W6.cell? ⟨w.heap.size, 3, none⟩ = some (.slice (some ⟨bx, ox, none⟩) n3 c3) := by rw [hEW6]; simp [go_sem, z3, zf]
 replace z4 : W6.cell? ⟨w.heap.size, 4, none⟩ = some (.slice p4 np q4) := by rw [hEW6]; simp [go_sem, z4, zf]
 replace z5 : W6.cell? ⟨w.heap.size, 5, none⟩ = some (.slice a5 n5 c5) := by rw [hEW6]; simp [go_sem, z5, zf]
 replace zf : ∀ o, W6.frozen? ⟨w.heap.size, o, none⟩ = false := fun o => by rw [hEW6]; simp [go_sem, zf]
 clear hEW6
 replace m0 := hmW6.cell m0 (show w.heap.size + 1 ≠ w.heap.size by omega)
 replace m1 := hmW6.cell m1 (show w.heap.size + 1 ≠ w.heap.size by omega)
 replace r0 := hmW6.cell r0 (show w.heap.size + 2 ≠ w.heap.size by omega)
 replace r1 := hmW6.cell r1 (show w.heap.size + 2 ≠ w.heap.size by omega)
 replace r2 := hmW6.cell r2 (show w.heap.size + 2 ≠ w.heap.size by omega)
 replace r3 := hmW6.cell r3 (show w.heap.size + 2 ≠ w.heap.size by omega)
 replace r4 := hmW6.cell r4 (show w.heap.size + 2 ≠ w.heap.size by omega)
 replace r5 := hmW6.cell r5 (show w.heap.size + 2 ≠ w.heap.size by omega)
 replace rf : ∀ o, W6.frozen? ⟨w.heap.size + 2, o, none⟩ = false := fun o => (hmW6.frz10 (a := ⟨w.heap.size + 2, o, none⟩) (by dsimp only; omega) (show w.heap.size + 2 ≠ w.heap.size by omega)).trans (rf o)
 have zNW6 : w.heap.size + 2 < W6.heap.size := Nat.lt_of_lt_of_le (by omega) hmW6.size
 have HO6 : Hid (shdR.O W6 base F7 (.agg #[.int .i64 d.idx, .slice pb mb qb, .slice a2 n2 c2, .slice (some ⟨bx, ox, none⟩) n3 c3, .slice p4 np q4, .slice a5 n5 c5]) ⟨d.idx, addB d.bals (onSh d.idx (d.held.getD i default).legs), d.votes, d.held, putM d.done ⟨k, o⟩, d.appl⟩) := shdR.mod HO7.out hmW6 (fun b' hb' e => by have := HF7.out b' hb'; omega)
 have hB6' : Below base w W6 := hmW6.below hB6 (by omega) (fun b' e => by rw [e]; exact hbase)
 clear hmW6 HO7 hB6
 obtain ⟨G5, og5, hG5, LN5⟩ := shd_appl (d := ⟨d.idx, addB d.bals (onSh d.idx (d.held.getD i default).legs), d.votes, d.held, putM d.done ⟨k, o⟩, d.appl⟩) HO6.out
 have HG5 : Hid (G5 = fun b' => (Value.slice a5 n5 c5).ownBlock = some b') := og5.2
 have HOa : Hid (W6.ownsRow base 2 1 (.slice a5 n5 c5) n5 (intsC d.appl)) := by have h := og5.1; rw [HN5.out] at h; exact h
 have HLN5 : Hid (∀ (w' : World) (Fj' : Nat → Prop) (v : Value) (ys : List Int), intsR.O w' base Fj' v ys → Mod G5 W6 w' → (∀ b, Fj' b → G5 b ∨ W6.heap.size ≤ b) → ∃ F', shdR.O w' base F' (.agg #[.int .i64 d.idx, .slice pb mb qb, .slice a2 n2 c2, .slice (some ⟨bx, ox, none⟩) n3 c3, .slice p4 np q4, v]) ⟨d.idx, addB d.bals (onSh d.idx (d.held.getD i default).legs), d.votes, d.held, putM d.done ⟨k, o⟩, ys⟩ ∧ ∀ b, F' b → F7 b ∨ W6.heap.size ≤ b) := LN5
 clear og5 hG5 LN5
 obtain ⟨i0, hi0, hz0, hz1, hz2⟩ := info_parts infoInt
 go_wp2_with (at_builtin; refine wpList_append_own_at _ rfl _ _ 25 rfl base 2 i0 _ 1 8 Tryz.underlying25 hi0 hz0 hz1 hz2 rfl (by decide) _ n5 (intsC d.appl) rfl (HOa.out.alloc _) ⟨W6.heap.size, 0, none⟩ 1 1 [.int .i64 k] rfl rfl ?c1 ?c2 ?c3 ?c4 ?c5 ?_)
 case c2 => rfl
 case c3 => unfold maxLen; have := HL5.out; omega
 case c4 => have := HL5.out; omega
 case c5 => first | omega | (simp; omega)
 intro v7 w7 ho7 hg7 _ hp7
 obtain ⟨pa, qa, rfl⟩ := owns_form ho7
 have hm7 : Mod G5 W6 w7 := by
  rw [HG5.out]
  exact (Mod.of_below (qBq)).trans (Mod.of_grown hg7)
 obtain ⟨Fa, oa, hFa⟩ := HLN5.out w7 (fun b' => (Value.slice pa (n5 + 1) qa).ownBlock = some b') (.slice pa (n5 + 1) qa) (d.appl ++ [k]) ⟨by
  rw [List.length_append, HN5.out, ints_app10]
  exact ho7, rfl⟩ hm7 (fun b' hb' => by
  rw [HG5.out]
  rcases hp7 with h | h
  ·
   exact .inl (h ▸ hb')
  ·
   rw [h] at hb'
   simp only [Option.some.injEq] at hb'
   exact .inr (by first | omega | (simp at hb'; omega)))
 have hN7 : ∀ b', w.heap.size ≤ b' → b' < w.heap.size + 3 → ¬ G5 b' := fun b' h1 h2 h => by
  rw [HG5.out] at h
  obtain ⟨G, hG, hGF, _⟩ := shd_appl (d := ⟨d.idx, addB d.bals (onSh d.idx (d.held.getD i default).legs), d.votes, d.held, putM d.done ⟨k, o⟩, d.appl⟩) HO6.out
  have hGe := hG.2
  have h3 : G b' := by rw [hGe]; exact h
  have := HF7.out b' (hGF b' h3)
  omega
 have n70 := hN7 w.heap.size (Nat.le_refl _) (by omega)
 have n71 := hN7 (w.heap.size + 1) (by omega) (by omega)
 have n72 := hN7 (w.heap.size + 2) (by omega) (by omega)
 have HOa7 : Hid (shdR.O w7 base Fa (.agg #[.int .i64 d.idx, .slice pb mb qb, .slice a2 n2 c2, .slice (some ⟨bx, ox, none⟩) n3 c3, .slice p4 np q4, .slice pa (n5 + 1) qa]) ⟨d.idx, addB d.bals (onSh d.idx (d.held.getD i default).legs), d.votes, d.held, putM d.done ⟨k, o⟩, d.appl ++ [k]⟩) := oa
 have HFa : Hid (∀ b', Fa b' → b' < w.heap.size ∨ w.heap.size + 3 ≤ b') := fun b' hb' => (hFa b' hb').elim (fun h => HF7.out b' h) (fun h => by omega)
 have hB7 : Below base w w7 := hm7.below hB6' (by omega) (fun b' h => by
  obtain ⟨G, hG, hGF, _⟩ := shd_appl (d := ⟨d.idx, addB d.bals (onSh d.idx (d.held.getD i default).legs), d.votes, d.held, putM d.done ⟨k, o⟩, d.appl⟩) HO6.out
  rw [HG5.out] at h
  have hGe := hG.2
  have h3 : G b' := by rw [hGe]; exact h
  exact (shdR.rng HO6.out b' (hGF b' h3)).1)
 replace z0 := hm7.cell z0 n70
 replace z1 := hm7.cell z1 n70
 replace z2 := hm7.cell z2 n70
 replace z3 := hm7.cell z3 n70
 replace z4 := hm7.cell z4 n70
 replace z5 := hm7.cell z5 n70
 replace m0 := hm7.cell m0 n71
 replace m1 := hm7.cell m1 n71
 replace r0 := hm7.cell r0 n72
 replace r1 := hm7.cell r1 n72
 replace r2 := hm7.cell r2 n72
 replace r3 := hm7.cell r3 n72
 replace r4 := hm7.cell r4 n72
 replace r5 := hm7.cell r5 n72
 replace zf : ∀ o, World.frozen? w7 ⟨w.heap.size, o, none⟩ = false := fun o => (hm7.frz10 (a := ⟨w.heap.size, o, none⟩) (by dsimp only; omega) n70).trans (zf o)
 replace rf : ∀ o, World.frozen? w7 ⟨w.heap.size + 2, o, none⟩ = false := fun o => (hm7.frz10 (a := ⟨w.heap.size + 2, o, none⟩) (by dsimp only; omega) n72).trans (rf o)
 have zN7 : w.heap.size + 2 < w7.heap.size := Nat.lt_of_lt_of_le zNW6 hm7.size
 clear oa hFa HLN5 ho7 hg7 hp7 hm7 hN7 n70 n71 n72 HG5 HOa HO6 HF7 hB6' k0 k1
 go_wp2_with fail
 obtain ⟨W7, hEW7⟩ : ∃ W, W = w7.setCell ⟨w.heap.size, 5, none⟩ (.slice pa (n5 + 1) qa) := ⟨_, rfl⟩
 rw [← hEW7]
 have hmW7 : Mod (fun b => b = w.heap.size) w7 W7 := by rw [hEW7]; exact Mod.of_set w7 ⟨w.heap.size, 5, none⟩ _
 replace z0 : W7.cell? ⟨w.heap.size, 0, none⟩ = some (.int .i64 d.idx) := by rw [hEW7]; simp [go_sem, z0, zf]
 replace z1 : W7.cell? ⟨w.heap.size, 1, none⟩ = some (.slice pb mb qb) := by rw [hEW7]; simp [go_sem, z1, zf]
 replace z2 : W7.cell? ⟨w.heap.size, 2, none⟩ = some (.slice a2 n2 c2) := by rw [hEW7]; simp [go_sem, z2, zf]
 replace z3 : W7.cell? ⟨w.heap.size, 3, none⟩ = some (.slice (some ⟨bx, ox, none⟩) n3 c3) := by rw [hEW7]; simp [go_sem, z3, zf]
 replace z4 : W7.cell? ⟨w.heap.size, 4, none⟩ = some (.slice p4 np q4) := by rw [hEW7]; simp [go_sem, z4, zf]
 replace z5 : W7.cell? ⟨w.heap.size, 5, none⟩ = some (.slice pa (n5 + 1) qa) := by rw [hEW7]; simp [go_sem, z5, zf]
 replace zf : ∀ o, W7.frozen? ⟨w.heap.size, o, none⟩ = false := fun o => by rw [hEW7]; simp [go_sem, zf]
 clear hEW7
 replace m0 := hmW7.cell m0 (show w.heap.size + 1 ≠ w.heap.size by omega)
 replace m1 := hmW7.cell m1 (show w.heap.size + 1 ≠ w.heap.size by omega)
 replace r0 := hmW7.cell r0 (show w.heap.size + 2 ≠ w.heap.size by omega)
 replace r1 := hmW7.cell r1 (show w.heap.size + 2 ≠ w.heap.size by omega)
 replace r2 := hmW7.cell r2 (show w.heap.size + 2 ≠ w.heap.size by omega)
 replace r3 := hmW7.cell r3 (show w.heap.size + 2 ≠ w.heap.size by omega)
 replace r4 := hmW7.cell r4 (show w.heap.size + 2 ≠ w.heap.size by omega)
 replace r5 := hmW7.cell r5 (show w.heap.size + 2 ≠ w.heap.size by omega)
 replace rf : ∀ o, W7.frozen? ⟨w.heap.size + 2, o, none⟩ = false := fun o => (hmW7.frz10 (a := ⟨w.heap.size + 2, o, none⟩) (by dsimp only; omega) (show w.heap.size + 2 ≠ w.heap.size by omega)).trans (rf o)
 have zNW7 : w.heap.size + 2 < W7.heap.size := Nat.lt_of_lt_of_le (by omega) hmW7.size
 have HO : Hid (shdR.O W7 base Fa (.agg #[.int .i64 d.idx, .slice pb mb qb, .slice a2 n2 c2, .slice (some ⟨bx, ox, none⟩) n3 c3, .slice p4 np q4, .slice pa (n5 + 1) qa]) ⟨d.idx, addB d.bals (onSh d.idx (d.held.getD i default).legs), d.votes, d.held, putM d.done ⟨k, o⟩, d.appl ++ [k]⟩) := shdR.mod HOa7.out hmW7 (fun b' hb' e => by have := HFa.out b' hb'; omega)
 have hBW : Below base w W7 := hmW7.below hB7 (by omega) (fun b' e => by rw [e]; exact hbase)
 have HFc : Hid (∀ b', Fa b' → b' < w.heap.size ∨ w.heap.size + 3 ≤ b') := HFa.out
 clear hmW7 HOa7 hB7 HFa
 obtain ⟨G3, o3, hG3, LN3⟩ := shd_held (d := ⟨d.idx, addB d.bals (onSh d.idx (d.held.getD i default).legs), d.votes, d.held, putM d.done ⟨k, o⟩, d.appl ++ [k]⟩) HO.out
 have HLN3 : Hid (∀ (w' : World) (Fj' : Nat → Prop) (v : Value) (ys : List Cont), contsR.O w' base Fj' v ys → Mod G3 W7 w' → (∀ b, Fj' b → G3 b ∨ W7.heap.size ≤ b) → ∃ F', shdR.O w' base F' (.agg #[.int .i64 d.idx, .slice pb mb qb, .slice a2 n2 c2, v, .slice p4 np q4, .slice pa (n5 + 1) qa]) ⟨d.idx, addB d.bals (onSh d.idx (d.held.getD i default).legs), d.votes, ys, putM d.done ⟨k, o⟩, d.appl ++ [k]⟩ ∧ ∀ b, F' b → Fa b ∨ W7.heap.size ≤ b) := LN3
 have HO3 : Hid (contsR.O W7 base G3 (.slice (some ⟨bx, ox, none⟩) n3 c3) d.held) := o3
 clear LN3 o3 hG3
 have HLf : Hid (Calls Tryz.prog 98 #[.slice (some ⟨bx, ox, none⟩) n3 c3, .func (.func 99) #[] #[.pointer (some ⟨w.heap.size + 1, 0, none⟩)]] W7 fun e w' => ∃ v F', e = .returned v ∧ contsR.O w' base F' v (leftC k d.held) ∧ Below W7.heap.size W7 w' ∧ ∀ b, F' b → G3 b ∨ W7.heap.size ≤ b) := leftOf_u _ d.held k (w.heap.size + 1) base G3 W7 HO3.out m0 (by omega) HLh.out
 refine HLf.out.mono ?_
 rintro e w8 ⟨v8, F8, rfl, o8, hb8, hF8⟩
 obtain ⟨F9, o9, hF9⟩ := HLN3.out w8 F8 _ _ o8 (Mod.of_below hb8) hF8
 obtain ⟨p8, q8, e8⟩ := conts_form (contsR.ofO o8)
 subst e8
 have HO8 : Hid (shdR.O w8 base F9 (.agg #[.int .i64 d.idx, .slice pb mb qb, .slice a2 n2 c2, .slice p8 (leftC k d.held).length q8, .slice p4 np q4, .slice pa (n5 + 1) qa]) ⟨d.idx, addB d.bals (onSh d.idx (d.held.getD i default).legs), d.votes, leftC k d.held, putM d.done ⟨k, o⟩, d.appl ++ [k]⟩) := o9
 have HF9 : Hid (∀ b, F9 b → b < w.heap.size ∨ w.heap.size + 3 ≤ b) := fun b hb => (hF9 b hb).elim (fun h => HFc.out b h) (fun h => by omega)
 have hB8 : Below base w w8 := Below.trans hBW (hb8.mono (by omega))
 generalize (leftC k d.held).length = m8 at *
 replace z0 := cK hb8 z0
 replace z1 := cK hb8 z1
 replace z2 := cK hb8 z2
 replace z3 := cK hb8 z3
 replace z4 := cK hb8 z4
 replace z5 := cK hb8 z5
 replace m0 := cK hb8 m0
 replace m1 := cK hb8 m1
 replace r0 := cK hb8 r0
 replace r1 := cK hb8 r1
 replace r2 := cK hb8 r2
 replace r3 := cK hb8 r3
 replace r4 := cK hb8 r4
 replace r5 := cK hb8 r5
 replace zf : ∀ o, World.frozen? w8 ⟨w.heap.size, o, none⟩ = false := fun o => by rw [(bcell hb8).2 _ _ (by omega)]; exact zf o
 replace rf : ∀ o, World.frozen? w8 ⟨w.heap.size + 2, o, none⟩ = false := fun o => by rw [(bcell hb8).2 _ _ (by omega)]; exact rf o
 have zN8 : w.heap.size + 2 < w8.heap.size := by have := hb8.size; omega
 clear o8 hb8 hF8 o9 hF9 HLN3 HO3 HLf HO HFc hBW
 go_wp2
 refine bodyPost_ret (v := .agg #[.int .i64 d.idx, .slice pb mb qb, .slice a2 n2 c2, .slice p8 m8 q8, .slice p4 np q4, .slice pa (n5 + 1) qa]) (by simp [results, Tryz.results59, go_sem, r0, r1, r2, r3, r4, r5, rf]) rfl ?_
 have hbN : base ≤ w.heap.size := hbase
 have hbR : base ≤ w.heap.size + 2 := by omega
 rw [HC.out]
 exact ⟨_, F9, rfl, setR6 shdR (setR1 shdR HO8.out (fun h => by have := HF9.out _ h; omega) _) (fun h => by have := HF9.out _ h; omega) _ _ _ _ _ _, (((((((hB8).setCell (p := ⟨w.heap.size, 3, none⟩) hbN _).setCell (p := ⟨w.heap.size + 2, 0, none⟩) hbR _).setCell (p := ⟨w.heap.size + 2, 1, none⟩) hbR _).setCell (p := ⟨w.heap.size + 2, 2, none⟩) hbR _).setCell (p := ⟨w.heap.size + 2, 3, none⟩) hbR _).setCell (p := ⟨w.heap.size + 2, 4, none⟩) hbR _).setCell (p := ⟨w.heap.size + 2, 5, none⟩) hbR _⟩
end Go.Proofs.YtndghenlapbaaaaGreat

/-
 The door of VoteShard.
-/
namespace Go.Proofs.YtndghenlapbaaaaGreat
open Go.RowKit
variable [DecidableEq Rw] [Inhabited Rw] [DecidableEq Bal] [Inhabited Bal] [DecidableEq Ledg] [Inhabited Ledg] [DecidableEq Leg] [Inhabited Leg] [DecidableEq Cont] [Inhabited Cont] [DecidableEq LedgR] [Inhabited LedgR] [DecidableEq OutcR] [Inhabited OutcR] [DecidableEq Mrk] [Inhabited Mrk] [DecidableEq Shd] [Inhabited Shd] [DecidableEq ShdR] [Inhabited ShdR]
attribute [local go_sem ↓] Go.wp_at_zero Go.wp_at_succ

theorem shdRR_form {w : World} {base : Nat} {F : Nat → Prop} {u : Value} {c v : Int} {d : Shd} (h : shdRR.O w base F u ⟨c, v, d⟩) : ∃ p1 p2 p3 p4 p5 m1 m2 m3 m4 m5 q1 q2 q3 q4 q5, u = .agg #[.int .i64 c, .int .i64 v, .int .i64 d.idx, .slice p1 m1 q1, .slice p2 m2 q2, .slice p3 m3 q3, .slice p4 m4 q4, .slice p5 m5 q5] := by
 obtain ⟨a1, a2, a3, a4, a5, c1, c2, c3, c4, c5, e⟩ := shdR_form (shdRR.ofO h)
 exact ⟨a1, a2, a3, a4, a5, _, _, _, _, _, c1, c2, c3, c4, c5, e⟩
structure DoorOk (w : World) (bs bc bt : Nat) (d : Shd) (c : Cont) : Prop where
 sh : ∃ a1 a2 a3 a4 a5 n1 n2 n3 n4 n5 c1 c2 c3 c4 c5, (w.cell? ⟨bs, 0, none⟩ = some (.int .i64 d.idx) ∧ w.cell? ⟨bs, 1, none⟩ = some (.slice a1 n1 c1) ∧ w.cell? ⟨bs, 2, none⟩ = some (.slice a2 n2 c2) ∧ w.cell? ⟨bs, 3, none⟩ = some (.slice a3 n3 c3) ∧ w.cell? ⟨bs, 4, none⟩ = some (.slice a4 n4 c4) ∧ w.cell? ⟨bs, 5, none⟩ = some (.slice a5 n5 c5)) ∧ shdR.V w (.agg #[.int .i64 d.idx, .slice a1 n1 c1, .slice a2 n2 c2, .slice a3 n3 c3, .slice a4 n4 c4, .slice a5 n5 c5]) d
 co : w.cell? ⟨bc, 0, none⟩ = some (.int .i64 c.id)
 ce : w.cell? ⟨bt, 0, none⟩ = some (.int .i64 0) ∧ w.cell? ⟨bt, 1, none⟩ = some (.int .i64 0) ∧ w.cell? ⟨bt, 2, none⟩ = some (.int .i64 0) ∧ w.cell? ⟨bt, 3, none⟩ = some (.slice none 0 0) ∧ w.cell? ⟨bt, 4, none⟩ = some (.slice none 0 0) ∧ w.cell? ⟨bt, 5, none⟩ = some (.slice none 0 0) ∧ w.cell? ⟨bt, 6, none⟩ = some (.slice none 0 0) ∧ w.cell? ⟨bt, 7, none⟩ = some (.slice none 0 0)
 fr : ∀ o, w.frozen? ⟨bt, o, none⟩ = false
theorem DoorOk.keep {w w' : World} {bs bc bt : Nat} {d : Shd} {c : Cont} (h : DoorOk w bs bc bt d c) (hb : Below w.heap.size w w') : DoorOk w' bs bc bt d c := by
 obtain ⟨a1, a2, a3, a4, a5, n1, n2, n3, n4, n5, c1, c2, c3, c4, c5, ⟨y0, y1, y2, y3, y4, y5⟩, hv⟩ := h.sh
 obtain ⟨r0, r1, r2, r3, r4, r5, r6, r7⟩ := h.ce
 refine ⟨⟨a1, a2, a3, a4, a5, n1, n2, n3, n4, n5, c1, c2, c3, c4, c5, ⟨cK hb y0, cK hb y1, cK hb y2, cK hb y3, cK hb y4, cK hb y5⟩, shdR.below hv hb⟩, cK hb h.co, ⟨cK hb r0, cK hb r1, cK hb r2, cK hb r3, cK hb r4, cK hb r5, cK hb r6, cK hb r7⟩, fun o => ?_⟩
 rw [hb.frozen (p := ⟨bt, o, none⟩) (wL w ⟨bt, 0, none⟩ r0)]
 exact h.fr o
def VoteE (w : World) (Z : ShdR) (e : Ending) (w' : World) : Prop := ∃ v F, e = .returned v ∧ shdRR.O w' w.heap.size F v Z ∧ Below w.heap.size w w'
end Go.Proofs.YtndghenlapbaaaaGreat

/-
 VoteShard, the program's.
-/
namespace Go.Proofs.YtndghenlapbaaaaGreat
open Go.RowKit
variable [DecidableEq Rw] [Inhabited Rw] [DecidableEq Bal] [Inhabited Bal] [DecidableEq Ledg] [Inhabited Ledg] [DecidableEq Leg] [Inhabited Leg] [DecidableEq Cont] [Inhabited Cont] [DecidableEq LedgR] [Inhabited LedgR] [DecidableEq OutcR] [Inhabited OutcR] [DecidableEq Mrk] [Inhabited Mrk] [DecidableEq Shd] [Inhabited Shd] [DecidableEq ShdR] [Inhabited ShdR]
attribute [local go_sem ↓] Go.wp_at_zero Go.wp_at_succ

theorem errH_O (w : World) (base : Nat) (c : Int) : ∃ F, shdRR.O w base F (.agg #[.int .i64 c, .int .i64 0, .int .i64 0, .slice none 0 0, .slice none 0 0, .slice none 0 0, .slice none 0 0, .slice none 0 0]) (errH c) := by
 obtain ⟨F, h⟩ := shd_nil w base
 exact ⟨F, shdR_of (d := ⟨0, [], [], [], [], []⟩) c 0 h⟩
theorem vote_err {w W : World} {Z : ShdR} {c : Int} (h : Z = errH c) (hb : Below w.heap.size w W) : VoteE w Z (.returned (.agg #[.int .i64 c, .int .i64 0, .int .i64 0, .slice none 0 0, .slice none 0 0, .slice none 0 0, .slice none 0 0, .slice none 0 0])) W := by
 obtain ⟨F, ho⟩ := errH_O W w.heap.size c
 rw [h]
 exact ⟨_, F, rfl, ho, hb⟩
end Go.Proofs.YtndghenlapbaaaaGreat

