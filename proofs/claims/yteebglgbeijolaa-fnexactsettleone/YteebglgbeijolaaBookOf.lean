/-
  The program's book of a ledger: made, asked.
-/
import Derived.Test.YteebglgbeijolaaLed2
import Derived.Test.YteebglgbeijolaaKeeps
import Derived.RegionTactic
import Derived.ChangeAlike
import Derived.BigRegion
import Derived.Carry
import Derived.Deep.RegionHeld3
import Derived.Deep.DrawnRows
namespace Go.Proofs.Yteebglgbeijolaa
open Go.RowKit
set_option linter.unusedSectionVars false
variable [DecidableEq Bal] [Inhabited Bal] [DecidableEq Ledg] [Inhabited Ledg] [DecidableEq Leg] [Inhabited Leg]
attribute [local go_sem ↓] Go.wp_at_zero Go.wp_at_succ

theorem keyOf_any (s a t : Int) (w : World) : Calls Try.prog 132 #[.int .i64 s, .int .i64 a, .int .i64 t] w fun e w' => e = .returned (kv s a t) ∧ Below w.heap.size w w' := by
  go_enter Try.func132, Try.ntmps132
  go_wp2
  refine bodyPost_ret (v := .agg #[.int .i64 s, .int .i64 a, .int .i64 t]) (by simp [results, Try.results132, go_sem]) rfl ⟨rfl, by (repeat (first | exact Below.refl _ _ | assumption | refine Below.drew ?_ | refine balloc ?_ _ | refine bset ?_ (by simp; omega) _ | refine bset ?_ (by simp) _ | refine bstep ?_ (by assumption)))⟩

theorem hasShard_any (n : Nat) (b : Value) (s : Int) (w : World) (hn : n ≤ 3) (hb : ∃ o, b = .map o) : Calls Try.prog 156 #[.agg #[.int .i64 n, b], .int .i64 s] w fun e w' => e = .returned (.bool (inB s 0 (n - 1))) ∧ Below w.heap.size w w' := by
  obtain ⟨o, rfl⟩ := hb
  have v1 : IntKind.i64.wrap ((n : Int) - 1) = n - 1 := wrapId (by omega) (by omega)
  go_enter Try.func156, Try.ntmps156
  go_wp2_with (go_at_call 102; refine (within_any _ _ _ _).mono ?_; rintro e w' ⟨rfl, rfl⟩)
  go_ret
  exact ⟨rfl, by (repeat (first | exact Below.refl _ _ | assumption | refine Below.drew ?_ | refine balloc ?_ _ | refine bset ?_ (by simp; omega) _ | refine bset ?_ (by simp) _ | refine bstep ?_ (by assumption)))⟩

/-- the two boxes of bookOf: its answer, not yet written; the book -/
structure BkC (W : World) (B n : Nat) : Prop where
  res : W.heap[B + 1]? = some (.cells #[.int .i64 0, .map none] 143)
  bk : W.heap[B + 1 + 1 + 1]? = some (.cells #[.int .i64 n, .map (some (B + 1 + 1))] 143)
theorem lt_of_get {W : World} {b : Nat} {o : Obj} (h : W.heap[b]? = some o) : b < W.heap.size := by
  rcases Nat.lt_or_ge b W.heap.size with h' | h'
  · exact h'
  · rw [Array.getElem?_eq_none h'] at h; cases h
theorem heap_new {w : World} {o : Obj} {b : Nat} (h : b = w.heap.size) : (w.alloc o).heap[b]? = some o := by rw [h]; exact (MapKept.heap_alloc w o).1
theorem heap_old {w : World} {o : Obj} {b : Nat} (h : b < w.heap.size) : (w.alloc o).heap[b]? = w.heap[b]? := (MapKept.heap_alloc w o).2 b h
theorem BkC.below {W W' : World} {B n : Nat} (h : BkC W B n) (hb : Below W.heap.size W W') : BkC W' B n :=
  ⟨(hb.block _ (lt_of_get h.res)).trans h.res, (hb.block _ (lt_of_get h.bk)).trans h.bk⟩
theorem BkC.grown {W W' : World} {B n : Nat} (h : BkC W B n) (hg : W.grownBy W' (some (B + 1 + 1))) : BkC W' B n :=
  ⟨(hg.block _ (lt_of_get h.res) (by simp)).trans h.res, (hg.block _ (lt_of_get h.bk) (by simp)).trans h.bk⟩
theorem bgrown {w Y X : World} {b : Nat} (h : Below w.heap.size w Y) (hg : Y.grownBy X (some b)) (hl : w.heap.size ≤ b) : Below w.heap.size w X :=
  h.grown hg h.size (fun k e => by cases e; exact hl)
theorem cellOf {W : World} {b t : Nat} {cs : Array Value} (h : W.heap[b]? = some (.cells cs t)) (i : Nat) : W.cell? ⟨b, i, none⟩ = cs[i]? := by
  simp [World.cell?, h]
theorem unfrozen {W : World} {b t : Nat} {cs : Array Value} (h : W.heap[b]? = some (.cells cs t)) (i : Nat) : W.frozen? ⟨b, i, none⟩ = false := by
  simp [World.frozen?, h]

set_option maxHeartbeats 4000000 in
theorem bookOf_any (x : Value) (g : Ledg) (w : World) (hx : ledgR.V w x g) (h0 : ledFault g = 0) :
    Calls Try.prog 93 #[x] w fun e w' => ∃ b, e = .returned (.agg #[.int .i64 g.shards.length, .map (some b)]) ∧ w.heap.size ≤ b ∧ Book w' b 54 (bookF g.shards) ∧ Below w.heap.size w w' := by
  obtain ⟨hl1, hl3, hok⟩ := ledOk_of h0
  obtain ⟨u, rfl, ax, cx, rfl, hcx, hmx, hxx⟩ := hx
  unfold maxLen at hmx
  have HOK : Hid (∀ k, k < g.shards.length → BalsOk (g.shards.getD k default)) := hok
  clear hok h0
  generalize hn' : g.shards.length = n at *
  have HN : Hid (g.shards.length = n) := hn'
  clear hn'
  have hmm := @run_makeMap Try.prog
  go_enter Try.func93, Try.ntmps93
  go_wp2
  go_loopw [16] (fun i w' => ∃ k : Nat, k ≤ n ∧ i = .int .i64 k ∧ Book w' (w.heap.size + 1 + 1) (k * 18) (bookP g.shards k 0) ∧ BkC w' w.heap.size n ∧ Below w.heap.size w w') (fun i _ => n - (intOf i).toNat)
  case atStart =>
    refine ⟨0, Nat.zero_le _, rfl, ?_, ⟨?_, ?_⟩, by (repeat (first | exact Below.refl _ _ | assumption | refine Below.drew ?_ | refine balloc ?_ _ | refine bset ?_ (by simp; omega) _ | refine bset ?_ (by simp) _ | refine bstep ?_ (by assumption)))⟩
    · have h1 := book_made ((w.alloc (Obj.cells #[Value.slice ax n cx] 78)).alloc (Obj.cells #[Value.int IntKind.i64 0, Value.map none] 143))
      simp only [World.size_alloc] at h1
      exact (h1.below (balloc (Below.refl _ _) _)).cast (fun s a t _ => bookP_start _ _ _ _)
    · exact (heap_old (by simp)).trans ((heap_old (by simp)).trans (heap_new (by simp)))
    · exact heap_new (by simp)
  case round =>
    obtain ⟨k, hk, rfl, hB, hC, hbl⟩ := hrel
    by_cases hlt : k < n
    · obtain ⟨bx, ox, u, rfl, _, hc, hu⟩ := hxx k hlt
      have c1 := cell_keep hbl (cells1 hc)
      have hb0 : BalsOk (g.shards.getD k default) := HOK.out k hlt
      have HB0 : Hid (BalsOk (g.shards.getD k default)) := hb0
      clear hc hxx hb0
      obtain ⟨l, hl⟩ : ∃ l, l = g.shards.getD k default := ⟨_, rfl⟩
      rw [← hl] at hu
      have HL : Hid (l = g.shards.getD k default) := hl
      clear hl
      obtain ⟨a', c', rfl, hcc, hmc, hu⟩ := hu
      unfold maxLen at hmc
      have hl18 : l.length ≤ 18 := by rw [HL.out]; exact HB0.out.len
      generalize hm' : l.length = m at *
      have HM : Hid (l.length = m) := hm'
      clear hm'
      go_wp2
      go_loopw [23] (fun i w' => ∃ j : Nat, j ≤ m ∧ i = .int .i64 j ∧ Book w' (w.heap.size + 1 + 1) (k * 18 + j) (bookP g.shards k j) ∧ BkC w' w.heap.size n ∧ Below w.heap.size w w') (fun i _ => m - (intOf i).toNat)
      case atStart => exact ⟨0, Nat.zero_le _, rfl, hB, hC, hbl⟩
      case round =>
        obtain ⟨j, hj, rfl, hB3, hC3, hb3⟩ := hrel
        by_cases hlt3 : j < m
        · obtain ⟨b5, o5, rfl, g1⟩ := hu j hlt3
          obtain ⟨q, hq⟩ : ∃ q, q = l.getD j default := ⟨_, rfl⟩
          rw [← hq] at g1
          have HQ : Hid (q = l.getD j default) := hq
          have hqok : balOk q = true := by rw [hq, HL.out]; exact HB0.out.ok j (by rw [← HL.out, HM.out]; exact hlt3)
          clear hq hu
          obtain ⟨⟨⟨p1, p2⟩, p3, p4⟩, p5, p6⟩ := balOk_iff.1 hqok
          have hw : kwf k q.ac q.ast := ⟨wf_of (by omega) (by omega), wf_of (by omega) (by omega), wf_of (by omega) (by omega)⟩
          have hv : (Lit.int .i64 q.am).wf = true := wf_of (by omega) (by omega)
          obtain ⟨e1, e2, e3⟩ := balCells_below hb3 g1
          have hlx : w.heap.size + 1 + 1 < wr.heap.size := hB3.lt
          have h0 : Below w.heap.size w (wr.alloc (.cells #[.int .i64 q.ac, .int .i64 q.ast, .int .i64 q.am] 178)) ∧ (wr.alloc (.cells #[.int .i64 q.ac, .int .i64 q.ast, .int .i64 q.am] 178)).cell? ⟨w.heap.size + 1 + 1 + 1, 1, none⟩ = some (.map (some (w.heap.size + 1 + 1))) ∧ (wr.alloc (.cells #[.int .i64 q.ac, .int .i64 q.ast, .int .i64 q.am] 178)).cell? ⟨wr.heap.size, 0, none⟩ = some (.int .i64 q.ac) ∧ (wr.alloc (.cells #[.int .i64 q.ac, .int .i64 q.ast, .int .i64 q.am] 178)).cell? ⟨wr.heap.size, 1, none⟩ = some (.int .i64 q.ast) ∧ (wr.alloc (.cells #[.int .i64 q.ac, .int .i64 q.ast, .int .i64 q.am] 178)).cell? ⟨wr.heap.size, 2, none⟩ = some (.int .i64 q.am) :=
            ⟨by (repeat (first | exact Below.refl _ _ | assumption | refine Below.drew ?_ | refine balloc ?_ _ | refine bset ?_ (by simp; omega) _ | refine bset ?_ (by simp) _ | refine bstep ?_ (by assumption))), cell_keep (balloc (Below.refl _ _) _) ((cellOf hC3.bk 1).trans rfl), by simp [go_sem], by simp [go_sem], by simp [go_sem]⟩
          have hBW := hB3.below (balloc (Below.refl _ _) (.cells #[.int .i64 q.ac, .int .i64 q.ast, .int .i64 q.am] 178))
          have hCW := hC3.below (balloc (Below.refl _ _) (.cells #[.int .i64 q.ac, .int .i64 q.ast, .int .i64 q.am] 178))
          have hnm : k * 18 + j < maxLen := by unfold maxLen; omega
          have y1 : some (w.heap.size + 1 + 1 + 1) ≠ some (w.heap.size + 1 + 1) := by simp
          have y2 : some wr.heap.size ≠ some (w.heap.size + 1 + 1) := by simp; omega
          have y3 : w.heap.size ≤ w.heap.size + 1 + 1 := by omega
          go_wp2
          generalize hW : wr.alloc (.cells #[.int .i64 q.ac, .int .i64 q.ast, .int .i64 q.am] 178) = W at *
          clear hW e1 e2 e3 g1 hB3 hC3 hb3 c1
          go_region_held3 (fun w' => Below w.heap.size w w' ∧ w'.cell? ⟨w.heap.size + 1 + 1 + 1, 1, none⟩ = some (.map (some (w.heap.size + 1 + 1))) ∧ w'.cell? ⟨wr.heap.size, 0, none⟩ = some (.int .i64 q.ac) ∧ w'.cell? ⟨wr.heap.size, 1, none⟩ = some (.int .i64 q.ast) ∧ w'.cell? ⟨wr.heap.size, 2, none⟩ = some (.int .i64 q.am))
            ((first | exact keepS4 h0 (Below.drew (Below.refl _ _)) | exact hS3 | exact hS4))
            (first | (go_at_call 132; refine (keyOf_any _ _ _ _).mono ?_; rintro e w3 ⟨rfl, hb5⟩; have hS3 := keepS4 (keepS4 h0 (Below.drew (Below.refl _ _))) hb5; obtain ⟨w4, hrun, hB4, hg4⟩ := ((hBW.below (Below.drew (Below.refl _ _))).below hb5).put hw hv hnm; have hS4 := keepS4g hS3 hg4 y3 y1 y2 y2 y2))
          have hC4 := ((hCW.below (Below.drew (Below.refl _ _))).below hb5).grown hg4
          have hbw := hS4.1
          clear hrun hS3 hS4
          go_wp2
          refine ⟨⟨j + 1, by omega, by go_num, ?_, hC4, hbw⟩, by simp [intOf]; omega⟩
          refine hB4.cast (fun s a t _ => ?_)
          rw [bookP_step HB0.out (by rw [← HL.out, HM.out]; exact hlt3), ← HL.out, ← HQ.out]
        · go_wp2
          have hjm : j = m := by omega
          subst hjm
          refine ⟨⟨k + 1, by omega, by go_num, ?_, hC3, hb3⟩, by simp [intOf]; omega⟩
          refine (hB3.mono (by omega)).cast (fun s a t _ => ?_)
          rw [bookP_next, ← HL.out, HM.out]
    · have hkn : k = n := by omega
      subst hkn
      have d0 := cellOf hC.bk 0
      have d1 := cellOf hC.bk 1
      have r0 := cellOf hC.res 0
      have r1 := cellOf hC.res 1
      have f0 := unfrozen hC.res 0
      have f1 := unfrozen hC.res 1
      simp at d0 d1 r0 r1
      go_wp2
      refine bodyPost_ret (v := .agg #[.int .i64 k, .map (some (w.heap.size + 1 + 1))]) ?_ rfl ⟨w.heap.size + 1 + 1, rfl, by omega, ?_, by (repeat (first | exact Below.refl _ _ | assumption | refine Below.drew ?_ | refine balloc ?_ _ | refine bset ?_ (by simp; omega) _ | refine bset ?_ (by simp) _ | refine bstep ?_ (by assumption)))⟩
      · simp [results, Try.results93, go_sem, r0, r1]
      · refine Book.cast (((hB.turned (Mod.of_set _ _ _) (by simp)).turned (Mod.of_set _ _ _) (by simp)).mono (by omega)) (fun s a t _ => ?_)
        rw [bookP_end, HN.out]

end Go.Proofs.Yteebglgbeijolaa
