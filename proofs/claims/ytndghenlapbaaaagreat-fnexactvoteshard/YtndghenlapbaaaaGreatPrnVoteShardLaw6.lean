import Derived.Test.YtndghenlapbaaaaGreatPrnVoteShardLaw5
import Derived.RegionTactic
import Derived.ChangeAlike
import Derived.BigRegion
import Derived.Carry
import Derived.Deep.RegionHeld3
import Derived.Deep.DrawnRows
import Derived.Test.YtndghenlapbaaaaGreatPrnVoteShardLaw4
import Derived.BigQuiet
import Derived.Deep.QuietTactic
import Derived.Test.YtndghenlapbaaaaGreatPrnVoteShardLaw3
set_option linter.unusedSectionVars false

/-
 The program's book of a ledger: made, asked.
-/
namespace Go.Proofs.YtndghenlapbaaaaGreat
open Go.RowKit
variable [DecidableEq Bal] [Inhabited Bal] [DecidableEq Ledg] [Inhabited Ledg] [DecidableEq Leg] [Inhabited Leg]
attribute [local go_sem ↓] Go.wp_at_zero Go.wp_at_succ

theorem keyOf_any (s a t : Int) (w : World) : Calls Tryz.prog 141 #[.int .i64 s, .int .i64 a, .int .i64 t] w fun e w' => e = .returned (kv s a t) ∧ Below w.heap.size w w' := by
 go_enter Tryz.func141, Tryz.ntmps141
 go_wp2
 refine bodyPost_ret (v := .agg #[.int .i64 s, .int .i64 a, .int .i64 t]) (by simp [results, Tryz.results141, go_sem]) rfl ⟨rfl, qBq⟩
structure BkC (W : World) (B n : Nat) : Prop where
 res : W.heap[B + 1]? = some (.cells #[.int .i64 0, .map none] 115)
 bk : W.heap[B + 1 + 1 + 1]? = some (.cells #[.int .i64 n, .map (some (B + 1 + 1))] 115)
theorem lt_of_get {W : World} {b : Nat} {o : Obj} (h : W.heap[b]? = some o) : b < W.heap.size := by
 rcases Nat.lt_or_ge b W.heap.size with h' | h'
 ·
  exact h'
 ·
  rw [Array.getElem?_eq_none h'] at h; cases h
theorem heap_new {w : World} {o : Obj} {b : Nat} (h : b = w.heap.size) : (w.alloc o).heap[b]? = some o := by rw [h]; exact (MapKept.heap_alloc w o).1
theorem heap_old {w : World} {o : Obj} {b : Nat} (h : b < w.heap.size) : (w.alloc o).heap[b]? = w.heap[b]? := (MapKept.heap_alloc w o).2 b h
theorem BkC.below {W W' : World} {B n : Nat} (h : BkC W B n) (hb : Below W.heap.size W W') : BkC W' B n :=
 ⟨(hb.block _ (lt_of_get h.res)).trans h.res, (hb.block _ (lt_of_get h.bk)).trans h.bk⟩
theorem BkC.grown {W W' : World} {B n : Nat} (h : BkC W B n) (hg : W.grownBy W' (some (B + 1 + 1))) : BkC W' B n :=
 ⟨(hg.block _ (lt_of_get h.res) (by simp)).trans h.res, (hg.block _ (lt_of_get h.bk) (by simp)).trans h.bk⟩
theorem cellOf {W : World} {b t : Nat} {cs : Array Value} (h : W.heap[b]? = some (.cells cs t)) (i : Nat) : W.cell? ⟨b, i, none⟩ = cs[i]? := by
 simp [World.cell?, h]
theorem unfrozen {W : World} {b t : Nat} {cs : Array Value} (h : W.heap[b]? = some (.cells cs t)) (i : Nat) : W.frozen? ⟨b, i, none⟩ = false := by
 simp [World.frozen?, h]
set_option maxHeartbeats 4000000 in
theorem bookOf_any (x : Value) (g : Ledg) (w : World) (hx : ledgR.V w x g) (h0 : ledFault g = 0) :
  Calls Tryz.prog 112 #[x] w fun e w' => ∃ b, e = .returned (.agg #[.int .i64 g.shards.length, .map (some b)]) ∧ w.heap.size ≤ b ∧ Book w' b 54 (bookF g.shards) ∧ Below w.heap.size w w' := by
 obtain ⟨hl1, hl3, hok⟩ := ledOk_of h0
 obtain ⟨u, rfl, ax, cx, rfl, hcx, hmx, hxx⟩ := hx
 unfold maxLen at hmx
 have HOK : Hid (∀ k, k < g.shards.length → BalsOk (g.shards.getD k default)) := hok
 clear hok h0
 generalize hn' : g.shards.length = n at *
 have HN : Hid (g.shards.length = n) := hn'
 clear hn'
 have hmm := @run_makeMap Tryz.prog
 go_enter Tryz.func112, Tryz.ntmps112
 go_wp2
 go_loopw [16] (fun i w' => ∃ k : Nat, k ≤ n ∧ i = .int .i64 k ∧ Book w' (w.heap.size + 1 + 1) (k * 18) (bookP g.shards k 0) ∧ BkC w' w.heap.size n ∧ Below w.heap.size w w') (fun i _ => n - (intOf i).toNat)
 case atStart =>
  refine ⟨0, Nat.zero_le _, rfl, ?_, ⟨?_, ?_⟩, qBq⟩
  ·
   have h1 := book_made ((w.alloc (Obj.cells #[Value.slice ax n cx] 126)).alloc (Obj.cells #[Value.int IntKind.i64 0, Value.map none] 115))
   simp only [World.size_alloc] at h1
   exact (h1.below (bA (Below.refl _ _) _)).cast (fun s a t _ => bookP_start _ _ _ _)
  ·
   exact (heap_old (by simp)).trans ((heap_old (by simp)).trans (heap_new (by simp)))
  ·
   exact heap_new (by simp)
 case round =>
  obtain ⟨k, hk, rfl, hB, hC, hbl⟩ := hrel
  by_cases hlt : k < n
  ·
   obtain ⟨bx, ox, u, rfl, _, hc, hu⟩ := hxx k hlt
   have c1 := cK hbl (cells1 hc)
   have hb0 : BalsOk (g.shards.getD k default) := HOK.out k hlt
   have HB0 : Hid (BalsOk (g.shards.getD k default)) := hb0
   clear hc hxx hb0
   obtain ⟨l, hl⟩ : ∃ l, l = g.shards.getD k default := ⟨_, rfl⟩
   rw [← hl] at hu
   have HL : Hid (l = g.shards.getD k default) := hl
   clear hl
   obtain ⟨a', c', rfl, hcc, hmc, hu⟩ := hu
   unfold maxLen at hmc
   have hl18 : l.length ≤ 18 := by rw [HL.out]; exact HB0.out.len
   generalize hm' : l.length = m at *
   have HM : Hid (l.length = m) := hm'
   clear hm'
   go_wp2
   go_loopw [23] (fun i w' => ∃ j : Nat, j ≤ m ∧ i = .int .i64 j ∧ Book w' (w.heap.size + 1 + 1) (k * 18 + j) (bookP g.shards k j) ∧ BkC w' w.heap.size n ∧ Below w.heap.size w w') (fun i _ => m - (intOf i).toNat)
   case atStart => exact ⟨0, Nat.zero_le _, rfl, hB, hC, hbl⟩
   case round =>
    obtain ⟨j, hj, rfl, hB3, hC3, hb3⟩ := hrel
    by_cases hlt3 : j < m
    ·
     obtain ⟨b5, o5, rfl, g1⟩ := hu j hlt3
     obtain ⟨q, hq⟩ : ∃ q, q = l.getD j default := ⟨_, rfl⟩
     rw [← hq] at g1
     have HQ : Hid (q = l.getD j default) := hq
     have hqok : balOk q = true := by rw [hq, HL.out]; exact HB0.out.ok j (by rw [← HL.out, HM.out]; exact hlt3)
     clear hq hu
     obtain ⟨⟨⟨p1, p2⟩, p3, p4⟩, p5, p6⟩ := balOk_iff.1 hqok
     have hw : kwf k q.ac q.ast := ⟨wf_of (by omega) (by omega), wf_of (by omega) (by omega), wf_of (by omega) (by omega)⟩
     have hv : (Lit.int .i64 q.am).wf = true := wf_of (by omega) (by omega)
     obtain ⟨e1, e2, e3⟩ := balCells_below hb3 g1
     have hlx : w.heap.size + 1 + 1 < wr.heap.size := hB3.lt
     have h0 : Below w.heap.size w (wr.alloc (.cells #[.int .i64 q.ac, .int .i64 q.ast, .int .i64 q.am] 99)) ∧ (wr.alloc (.cells #[.int .i64 q.ac, .int .i64 q.ast, .int .i64 q.am] 99)).cell? ⟨w.heap.size + 1 + 1 + 1, 1, none⟩ = some (.map (some (w.heap.size + 1 + 1))) ∧ (wr.alloc (.cells #[.int .i64 q.ac, .int .i64 q.ast, .int .i64 q.am] 99)).cell? ⟨wr.heap.size, 0, none⟩ = some (.int .i64 q.ac) ∧ (wr.alloc (.cells #[.int .i64 q.ac, .int .i64 q.ast, .int .i64 q.am] 99)).cell? ⟨wr.heap.size, 1, none⟩ = some (.int .i64 q.ast) ∧ (wr.alloc (.cells #[.int .i64 q.ac, .int .i64 q.ast, .int .i64 q.am] 99)).cell? ⟨wr.heap.size, 2, none⟩ = some (.int .i64 q.am) :=
      ⟨qBq, cK (bA (Below.refl _ _) _) ((cellOf hC3.bk 1).trans rfl), by simp [go_sem], by simp [go_sem], by simp [go_sem]⟩
     have hBW := hB3.below (bA (Below.refl _ _) (.cells #[.int .i64 q.ac, .int .i64 q.ast, .int .i64 q.am] 99))
     have hCW := hC3.below (bA (Below.refl _ _) (.cells #[.int .i64 q.ac, .int .i64 q.ast, .int .i64 q.am] 99))
     have hnm : k * 18 + j < maxLen := by unfold maxLen; omega
     have y1 : some (w.heap.size + 1 + 1 + 1) ≠ some (w.heap.size + 1 + 1) := by simp
     have y2 : some wr.heap.size ≠ some (w.heap.size + 1 + 1) := by simp; omega
     have y3 : w.heap.size ≤ w.heap.size + 1 + 1 := by omega
     go_wp2
     generalize hW : wr.alloc (.cells #[.int .i64 q.ac, .int .i64 q.ast, .int .i64 q.am] 99) = W at *
     clear hW e1 e2 e3 g1 hB3 hC3 hb3 c1
     go_region_held3 (fun w' => Below w.heap.size w w' ∧ w'.cell? ⟨w.heap.size + 1 + 1 + 1, 1, none⟩ = some (.map (some (w.heap.size + 1 + 1))) ∧ w'.cell? ⟨wr.heap.size, 0, none⟩ = some (.int .i64 q.ac) ∧ w'.cell? ⟨wr.heap.size, 1, none⟩ = some (.int .i64 q.ast) ∧ w'.cell? ⟨wr.heap.size, 2, none⟩ = some (.int .i64 q.am))
      ((first | exact keepS4 h0 (Below.drew (Below.refl _ _)) | exact hS3 | exact hS4))
      (first | (go_at_call 141; refine (keyOf_any _ _ _ _).mono ?_; rintro e w3 ⟨rfl, hb5⟩; have hS3 := keepS4 (keepS4 h0 (Below.drew (Below.refl _ _))) hb5; obtain ⟨w4, hrun, hB4, hg4⟩ := ((hBW.below (Below.drew (Below.refl _ _))).below hb5).put hw hv hnm; have hS4 := keepS4g hS3 hg4 y3 y1 y2 y2 y2))
     have hC4 := ((hCW.below (Below.drew (Below.refl _ _))).below hb5).grown hg4
     have hbw := hS4.1
     clear hrun hS3 hS4
     go_wp2
     refine ⟨⟨j + 1, by omega, by go_num, ?_, hC4, hbw⟩, by simp [intOf]; omega⟩
     refine hB4.cast (fun s a t _ => ?_)
     rw [bookP_step HB0.out (by rw [← HL.out, HM.out]; exact hlt3), ← HL.out, ← HQ.out]
    ·
     go_wp2
     have hjm : j = m := by omega
     subst hjm
     refine ⟨⟨k + 1, by omega, by go_num, ?_, hC3, hb3⟩, by simp [intOf]; omega⟩
     refine (hB3.mono (by omega)).cast (fun s a t _ => ?_)
     rw [bookP_next, ← HL.out, HM.out]
  ·
   have hkn : k = n := by omega
   subst hkn
   have d0 := cellOf hC.bk 0
   have d1 := cellOf hC.bk 1
   have r0 := cellOf hC.res 0
   have r1 := cellOf hC.res 1
   have f0 := unfrozen hC.res 0
   have f1 := unfrozen hC.res 1
   simp at d0 d1 r0 r1
   go_wp2
   refine bodyPost_ret (v := .agg #[.int .i64 k, .map (some (w.heap.size + 1 + 1))]) ?_ rfl ⟨w.heap.size + 1 + 1, rfl, by omega, ?_, qBq⟩
   ·
    simp [results, Tryz.results112, go_sem, r0, r1]
   ·
    refine Book.cast (((hB.turned (Mod.of_set _ _ _) (by simp)).turned (Mod.of_set _ _ _) (by simp)).mono (by omega)) (fun s a t _ => ?_)
    rw [bookP_end, HN.out]
end Go.Proofs.YtndghenlapbaaaaGreat

/-
 BalancesFault on both sides.
-/
namespace Go.Proofs.YtndghenlapbaaaaGreat
open Go.RowKit
variable [DecidableEq Bal] [Inhabited Bal] [DecidableEq Ledg] [Inhabited Ledg] [DecidableEq Leg] [Inhabited Leg]
attribute [local go_sem ↓] Go.wp_at_zero Go.wp_at_succ

theorem l2Key_any (a s : Int) (w : World) : Calls Tryz.prog 133 #[.int .i64 a, .int .i64 s] w fun e w' => e = .returned (.bool (keyOk a s)) ∧ w' = w := by
 unfold keyOk
 cases h1 : inB a 0 5
 all_goals
  go_enter Tryz.func133, Tryz.ntmps133
  go_wp2_with (go_at_call 53; refine (l1In_any _ _ _ _).mono ?_; rintro e w' ⟨rfl, rfl⟩)
  go_ret
  exact ⟨by simp, rfl⟩
theorem isBalance_any (x : Bal) (w : World) : Calls Tryz.prog 159 #[.agg #[.int .i64 x.ac, .int .i64 x.ast, .int .i64 x.am]] w fun e w' => e = .returned (.bool (balOk x)) ∧ Below w.heap.size w w' := by
 unfold balOk keyOk
 cases h1 : inB x.ac 0 5
 ·
  go_enter Tryz.func159, Tryz.ntmps159
  go_wp2_with (go_at_call 155; refine (isAccount_any _ _).mono ?_; rintro e w' ⟨rfl, rfl⟩)
  go_ret
  exact ⟨by simp, bA (Below.refl _ _) _⟩
 cases h2 : inB x.ast 0 2
 all_goals
  go_enter Tryz.func159, Tryz.ntmps159
  go_wp2_with (first | (go_at_call 155; refine (isAccount_any _ _).mono ?_; rintro e w' ⟨rfl, rfl⟩) | (go_at_call 156; refine (isAsset_any _ _).mono ?_; rintro e w' ⟨rfl, rfl⟩) | (go_at_call 95; refine (within_any _ _ _ _).mono ?_; rintro e w' ⟨rfl, rfl⟩))
  go_ret
  exact ⟨by simp, bA (Below.refl _ _) _⟩
theorem standsBehind_any (x y : Bal) (w : World) : Calls Tryz.prog 160 #[.agg #[.int .i64 x.ac, .int .i64 x.ast, .int .i64 x.am], .agg #[.int .i64 y.ac, .int .i64 y.ast, .int .i64 y.am]] w fun e w' => e = .returned (.bool (behind x y)) ∧ Below w.heap.size w w' := by
 unfold behind
 go_enter Tryz.func160, Tryz.ntmps160
 go_wp2
 all_goals
  go_ret
  exact ⟨by simp_all, bA (bA (Below.refl _ _) _) _⟩
theorem balAt_bad {xs : List Bal} {k : Nat} (h : balOk (xs.getD k default) = false) : balAt xs k = 3 := by unfold balAt; rw [h]; rfl
theorem balAt_first {xs : List Bal} (h : balOk (xs.getD 0 default) = true) : balAt xs 0 = 0 := by simp only [balAt, h]; simp
theorem balAt_next {xs : List Bal} {k : Nat} (h : balOk (xs.getD (k + 1) default) = true) : balAt xs (k + 1) = if behind (xs.getD (k + 1) default) (xs.getD k default) = false then 1 else 0 := by
 simp only [balAt, h, if_true, Nat.add_sub_cancel]
 simp
theorem balFault_hit {xs : List Bal} {k : Nat} {c : Int} (h18 : xs.length ≤ 18) (hk : k < xs.length) (h : scanI (balAt xs) k = 0) (hc : balAt xs k = c) (h0 : c ≠ 0) : balFault xs = c := by
 rw [balFault, if_neg (by omega), scanI_hit h (by rw [hc]; exact h0) _ hk, hc]
theorem balAt_ok {xs : List Bal} {k : Nat} (h : balAt xs k = 0) : balOk (xs.getD k default) = true := by
 cases e : balOk (xs.getD k default) with
 | true => rfl
 | false => rw [balAt_bad e] at h; omega
set_option maxHeartbeats 2000000 in
theorem specBalFault_any (x : Value) (xs : List Bal) (w : World) (hx : balsR.V w x xs) :
  Calls Tryz.prog 100 #[x] w fun e w' => e = .returned (.int .i64 (balFault xs)) ∧ Below w.heap.size w w' := by
 obtain ⟨ax, cx, rfl, hcx, hmx, hx⟩ := hx
 unfold maxLen at hmx
 by_cases h18 : 18 < xs.length
 ·
  have e : balFault xs = 2 := by simp [balFault, h18]
  rw [e]
  go_enter Tryz.func100, Tryz.ntmps100
  go_wp2
  go_ret
  exact ⟨rfl, Below.refl _ _⟩
 generalize hn' : xs.length = n at *
 have HN : Hid (xs.length = n) := hn'
 clear hn'
 go_enter Tryz.func100, Tryz.ntmps100
 go_wp2
 go_loopw [3] (fun i w' => ∃ k : Nat, k ≤ n ∧ i = .int .i64 k ∧ scanI (balAt xs) k = 0 ∧ Below w.heap.size w w') (fun i _ => n - (intOf i).toNat)
 case atStart => exact ⟨0, Nat.zero_le _, rfl, rfl, Below.refl _ _⟩
 case round =>
  obtain ⟨k, hk, rfl, hs, hbl⟩ := hrel
  have HS : Hid (scanI (balAt xs) k = 0) := hs
  clear hs
  by_cases hlt : k < n
  ·
   obtain ⟨bx, ox, rfl, g1⟩ := hx k hlt
   obtain ⟨l, hl⟩ : ∃ l, l = xs.getD k default := ⟨_, rfl⟩
   rw [← hl] at g1
   have HL : Hid (l = xs.getD k default) := hl
   clear hl
   obtain ⟨a1, a2, a3⟩ := balCells_below hbl g1
   cases h1 : keyOk l.ac l.ast
   ·
    clear hx
    go_wp2_with (first | (go_at_call 133; refine (l2Key_any _ _ _).mono ?_; rintro e w' ⟨rfl, rfl⟩) | (go_at_call 53; refine (l1In_any _ _ _ _).mono ?_; rintro e w' ⟨rfl, rfl⟩))
    go_ret
    refine ⟨?_, bA hbl _⟩
    rw [balFault_hit (k := k) (c := 3) (by rw [HN.out]; omega) (by rw [HN.out]; exact hlt) HS.out (balAt_bad (by rw [← HL.out]; simp [balOk, h1])) (by omega)]
    rfl
   cases h2 : inB l.am 1 1000000000000
   ·
    clear hx
    go_wp2_with (first | (go_at_call 133; refine (l2Key_any _ _ _).mono ?_; rintro e w' ⟨rfl, rfl⟩) | (go_at_call 53; refine (l1In_any _ _ _ _).mono ?_; rintro e w' ⟨rfl, rfl⟩))
    go_ret
    refine ⟨?_, bA hbl _⟩
    rw [balFault_hit (k := k) (c := 3) (by rw [HN.out]; omega) (by rw [HN.out]; exact hlt) HS.out (balAt_bad (by rw [← HL.out]; simp [balOk, h2])) (by omega)]
    rfl
   have hok : balOk (xs.getD k default) = true := by rw [← HL.out]; simp [balOk, h1, h2]
   cases k with
   | zero =>
    clear hx
    simp only [Nat.zero_mul, Nat.add_zero] at a1 a2 a3
    go_wp2_with (first | (go_at_call 133; refine (l2Key_any _ _ _).mono ?_; rintro e w' ⟨rfl, rfl⟩) | (go_at_call 53; refine (l1In_any _ _ _ _).mono ?_; rintro e w' ⟨rfl, rfl⟩))
    go_quiet (fail)
    go_wp2
    exact ⟨⟨1, by omega, by go_num, scanI_succ HS.out (balAt_first hok), bdrewN (bA hbl _) _⟩, by simp [intOf]; omega⟩
   | succ m =>
    obtain ⟨b', o', he, g2⟩ := hx m (by omega)
    simp only [Option.some.injEq, Addr.mk.injEq, and_true] at he
    obtain ⟨rfl, rfl⟩ := he
    have hok' : balOk (xs.getD m default) = true := balAt_ok (scanI_zero HS.out m (by omega))
    obtain ⟨o, ho⟩ : ∃ o, o = xs.getD m default := ⟨_, rfl⟩
    rw [← ho] at g2 hok'
    have HO : Hid (o = xs.getD m default) := ho
    clear ho hx
    obtain ⟨d1, d2, d3⟩ := balCells_below hbl g2
    obtain ⟨⟨⟨p1, p2⟩, p3, p4⟩, p5, p6⟩ := balOk_iff.1 hok'
    obtain ⟨⟨q1, q2⟩, q3, q4⟩ := keyOk_iff.1 h1
    have i1 : (m : Int) < (n : Int) := by omega
    have z5 : bx < wr.heap.size := wL wr _ d1
    have i2 : m < n := by omega
    have v1 : IntKind.i64.wrap (m : Int) = m := wrapId (by omega) (by omega)
    have v2 : IntKind.i64.wrap (l.ac * 3) = l.ac * 3 := wrapId (by omega) (by omega)
    have v3 : IntKind.i64.wrap (l.ac * 3 + l.ast) = l.ac * 3 + l.ast := wrapId (by omega) (by omega)
    have v4 : IntKind.i64.wrap (o.ac * 3) = o.ac * 3 := wrapId (by omega) (by omega)
    have v5 : IntKind.i64.wrap (o.ac * 3 + o.ast) = o.ac * 3 + o.ast := wrapId (by omega) (by omega)
    have hbi := behind_iff (b := l) (a := o) h1 (balOk_key hok')
    have HBI : Hid (behind l o = false ↔ l.ac * 3 + l.ast ≤ o.ac * 3 + o.ast) := hbi
    clear hbi
    go_wp2_with (first | (go_at_call 133; refine (l2Key_any _ _ _).mono ?_; rintro e w' ⟨rfl, rfl⟩) | (go_at_call 53; refine (l1In_any _ _ _ _).mono ?_; rintro e w' ⟨rfl, rfl⟩))
    go_quiet (fail)
    go_wp2
    ·
     rename_i hle
     go_ret
     refine ⟨?_, bdrewN (bA hbl _) _⟩
     have hb0 : balAt xs (m + 1) = 1 := by rw [balAt_next hok, ← HL.out, ← HO.out, if_pos (HBI.out.2 hle)]
     rw [balFault_hit (k := m + 1) (c := 1) (by rw [HN.out]; omega) (by rw [HN.out]; exact hlt) HS.out hb0 (by omega)]
     rfl
    ·
     rename_i hle
     refine ⟨⟨m + 1 + 1, by omega, by go_num, scanI_succ HS.out ?_, bdrewN (bA hbl _) _⟩, by simp [intOf]; omega⟩
     rw [balAt_next hok, ← HL.out, ← HO.out, if_neg (fun e => by have := HBI.out.1 e; omega)]
  ·
   go_wp2
   go_ret
   have hkn : k = n := by omega
   subst hkn
   refine ⟨?_, hbl⟩
   rw [balFault, if_neg (by rw [HN.out]; omega), HN.out, HS.out]
   rfl
set_option maxHeartbeats 2000000 in
theorem implBalFault_any (x : Value) (xs : List Bal) (w : World) (hx : balsR.V w x xs) :
  Calls Tryz.prog 144 #[x] w fun e w' => e = .returned (.int .i64 (balFault xs)) ∧ Below w.heap.size w w' := by
 obtain ⟨ax, cx, rfl, hcx, hmx, hx⟩ := hx
 unfold maxLen at hmx
 by_cases h18 : 18 < xs.length
 ·
  have e : balFault xs = 2 := by simp [balFault, h18]
  rw [e]
  go_enter Tryz.func144, Tryz.ntmps144
  go_wp2
  go_ret
  exact ⟨rfl, Below.refl _ _⟩
 generalize hn' : xs.length = n at *
 have HN : Hid (xs.length = n) := hn'
 clear hn'
 go_enter Tryz.func144, Tryz.ntmps144
 go_wp2
 go_loopw [10] (fun i w' => ∃ k : Nat, k ≤ n ∧ i = .int .i64 k ∧ scanI (balAt xs) k = 0 ∧ Below w.heap.size w w') (fun i _ => n - (intOf i).toNat)
 case atStart => exact ⟨0, Nat.zero_le _, rfl, rfl, Below.refl _ _⟩
 case round =>
  obtain ⟨k, hk, rfl, hs, hbl⟩ := hrel
  have HS : Hid (scanI (balAt xs) k = 0) := hs
  clear hs
  by_cases hlt : k < n
  ·
   obtain ⟨bx, ox, rfl, g1⟩ := hx k hlt
   obtain ⟨l, hl⟩ : ∃ l, l = xs.getD k default := ⟨_, rfl⟩
   rw [← hl] at g1
   have HL : Hid (l = xs.getD k default) := hl
   clear hl
   obtain ⟨a1, a2, a3⟩ := balCells_below hbl g1
   cases hok : balOk l
   ·
    clear hx
    go_wp2_with (go_at_call 159; refine (isBalance_any l _).mono ?_; rintro e w' ⟨rfl, hb⟩)
    go_ret
    refine ⟨?_, bS (bA hbl _) hb⟩
    rw [balFault_hit (k := k) (c := 3) (by rw [HN.out]; omega) (by rw [HN.out]; exact hlt) HS.out (balAt_bad (by rw [← HL.out]; exact hok)) (by omega)]
    rfl
   have hok2 : balOk (xs.getD k default) = true := by rw [← HL.out]; exact hok
   cases k with
   | zero =>
    clear hx
    simp only [Nat.zero_mul, Nat.add_zero] at a1 a2 a3
    go_wp2_with (go_at_call 159; refine (isBalance_any l _).mono ?_; rintro e w' ⟨rfl, hb⟩)
    go_quiet (fail)
    go_wp2
    exact ⟨⟨1, by omega, by go_num, scanI_succ HS.out (balAt_first hok2), bdrewN (bS (bA hbl _) hb) _⟩, by simp [intOf]; omega⟩
   | succ m =>
    obtain ⟨b', o', he, g2⟩ := hx m (by omega)
    simp only [Option.some.injEq, Addr.mk.injEq, and_true] at he
    obtain ⟨rfl, rfl⟩ := he
    obtain ⟨o, ho⟩ : ∃ o, o = xs.getD m default := ⟨_, rfl⟩
    rw [← ho] at g2
    have HO : Hid (o = xs.getD m default) := ho
    clear ho hx
    obtain ⟨d1, d2, d3⟩ := balCells_below hbl g2
    have i1 : (m : Int) < (n : Int) := by omega
    have v1 : IntKind.i64.wrap (m : Int) = m := wrapId (by omega) (by omega)
    go_wp2_with (go_at_call 159; refine (isBalance_any l _).mono ?_; rintro e w' ⟨rfl, hb⟩)
    have hB := bS (bA hbl _) hb
    have g3 := balCells_below hB g2
    have g4 : balCells w' wr.heap.size 0 l := ⟨cK hb (by simp [go_sem]), cK hb (by simp [go_sem]), cK hb (by simp [go_sem])⟩
    clear hb d1 d2 d3 a1 a2 a3 g1 g2
    have z5 : bx < w'.heap.size := wL w' _ g3.1
    have z6 : wr.heap.size < w'.heap.size := wL w' _ g4.1
    go_region_held3 (fun w'' => Below w'.heap.size w' w'' ∧ (w''.cell? ⟨wr.heap.size, 0, none⟩ = some (.int .i64 l.ac) ∧ w''.cell? ⟨wr.heap.size, 1, none⟩ = some (.int .i64 l.ast) ∧ w''.cell? ⟨wr.heap.size, 2, none⟩ = some (.int .i64 l.am)) ∧ (w''.cell? ⟨bx, ox + m * 3, none⟩ = some (.int .i64 o.ac) ∧ w''.cell? ⟨bx, ox + m * 3 + 1, none⟩ = some (.int .i64 o.ast) ∧ w''.cell? ⟨bx, ox + m * 3 + 2, none⟩ = some (.int .i64 o.am)))
     ((refine balKeep2 ?_ g4 g3; repeat (first | exact bR _ _ | assumption | refine bD ?_ | refine bA ?_ _ | refine bS ?_ (by assumption))))
     (first | (go_at_call 160; refine (standsBehind_any l o _).mono ?_; rintro e w3 ⟨rfl, hb3⟩))
    rename_i hH
    have hB3 := bS hB hH.1
    clear hH
    cases hbe : behind l o
    ·
     go_wp2
     go_ret
     refine ⟨?_, hB3⟩
     have hb0 : balAt xs (m + 1) = 1 := by rw [balAt_next hok2, ← HL.out, ← HO.out, if_pos hbe]
     rw [balFault_hit (k := m + 1) (c := 1) (by rw [HN.out]; omega) (by rw [HN.out]; exact hlt) HS.out hb0 (by omega)]
     rfl
    ·
     go_wp2
     refine ⟨⟨m + 1 + 1, by omega, by go_num, scanI_succ HS.out ?_, hB3⟩, by simp [intOf]; omega⟩
     rw [balAt_next hok2, ← HL.out, ← HO.out, if_neg (by rw [hbe]; simp)]
  ·
   go_wp2
   go_ret
   have hkn : k = n := by omega
   subst hkn
   refine ⟨?_, hbl⟩
   rw [balFault, if_neg (by rw [HN.out]; omega), HN.out, HS.out]
   rfl
end Go.Proofs.YtndghenlapbaaaaGreat

/-
 BalanceOf on both sides.
-/
namespace Go.Proofs.YtndghenlapbaaaaGreat
open Go.RowKit
variable [DecidableEq Bal] [Inhabited Bal] [DecidableEq Ledg] [Inhabited Ledg] [DecidableEq Leg] [Inhabited Leg]
attribute [local go_sem ↓] Go.wp_at_zero Go.wp_at_succ

set_option maxHeartbeats 1000000 in
theorem l2Has_any (x : Value) (xs : List Bal) (a s : Int) (w : World) (hx : balsR.V w x xs) :
  Calls Tryz.prog 119 #[x, .int .i64 a, .int .i64 s] w fun e w' => e = .returned (.int .i64 (hasB a s xs)) ∧ w' = w := by
 obtain ⟨ax, cx, rfl, hcx, hmx, hx⟩ := hx
 unfold maxLen at hmx
 generalize hn' : xs.length = n at *
 have HN : Hid (xs.length = n) := hn'
 clear hn'
 go_enter Tryz.func119, Tryz.ntmps119
 go_wp2
 go_loopw [7] (fun i w' => ∃ k : Nat, k ≤ n ∧ i = .int .i64 k ∧ hasB a s (xs.drop k) = hasB a s xs ∧ w' = w) (fun i _ => n - (intOf i).toNat)
 case atStart => exact ⟨0, Nat.zero_le _, rfl, rfl, rfl⟩
 case round =>
  obtain ⟨k, hk, rfl, hs, rfl⟩ := hrel
  have HS : Hid (hasB a s (xs.drop k) = hasB a s xs) := hs
  clear hs
  by_cases hlt : k < n
  ·
   obtain ⟨bx, ox, rfl, g1⟩ := hx k hlt
   have HD : Hid (hasB a s (xs.drop k) = if (xs.getD k default).ac = a ∧ (xs.getD k default).ast = s then (xs.getD k default).am else hasB a s (xs.drop (k + 1))) := hasB_drop (by rw [HN.out]; exact hlt)
   obtain ⟨l, hl⟩ : ∃ l, l = xs.getD k default := ⟨_, rfl⟩
   rw [← hl] at g1 HD
   clear hl hx
   obtain ⟨a1, a2, a3⟩ := g1
   go_wp2
   ·
    rename_i e1 e2
    go_ret
    refine ⟨?_, rfl⟩
    rw [← HS.out, HD.out, if_pos ⟨e1, by simpa using e2⟩]
    rfl
   ·
    rename_i e1 e2
    refine ⟨⟨k + 1, by omega, by go_num, ?_, trivial⟩, by simp [intOf]; omega⟩
    rw [← HS.out, HD.out, if_neg (fun h => by simp_all)]
   ·
    rename_i e1
    refine ⟨⟨k + 1, by omega, by go_num, ?_, trivial⟩, by simp [intOf]; omega⟩
    rw [← HS.out, HD.out, if_neg (fun h => by simp_all)]
  ·
   go_wp2
   go_ret
   refine ⟨?_, rfl⟩
   rw [← HS.out, List.drop_eq_nil_of_le (by rw [HN.out]; omega)]
   rfl
end Go.Proofs.YtndghenlapbaaaaGreat

/-
 Legs in memory: what a slice of legs holds, and the contracts of the functions that only compare, count and copy them.
-/
namespace Go.Proofs.YtndghenlapbaaaaGreat
open Go.RowKit
variable [DecidableEq Leg] [Inhabited Leg]
attribute [local go_sem ↓] Go.wp_at_zero Go.wp_at_succ

def legCells (w : World) (b o : Nat) (l : Leg) : Prop :=
 w.cell? ⟨b, o, none⟩ = some (.int .i64 l.sh) ∧ w.cell? ⟨b, o + 1, none⟩ = some (.int .i64 l.ac) ∧ w.cell? ⟨b, o + 2, none⟩ = some (.int .i64 l.ast) ∧ w.cell? ⟨b, o + 3, none⟩ = some (.int .i64 l.am)
def LegsV (w : World) (v : Value) (xs : List Leg) : Prop :=
 ∃ a cap, v = .slice a xs.length cap ∧ xs.length ≤ cap ∧ cap ≤ maxLen ∧ ∀ i, i < xs.length → ∃ b o, a = some ⟨b, o, none⟩ ∧ legCells w b (o + i * 4) (xs.getD i default)
theorem legCells_below {w w' : World} {b o : Nat} {l : Leg} (hb : Below w.heap.size w w') (h : legCells w b o l) : legCells w' b o l := by
 obtain ⟨h1, h2, h3, h4⟩ := h
 have hlt : b < w.heap.size := wL w _ h1
 exact ⟨(hb.cell (p := ⟨b, o, none⟩) hlt).trans h1, (hb.cell (p := ⟨b, o + 1, none⟩) hlt).trans h2, (hb.cell (p := ⟨b, o + 2, none⟩) hlt).trans h3, (hb.cell (p := ⟨b, o + 3, none⟩) hlt).trans h4⟩
theorem keep2 {w w' : World} {b o b' o' : Nat} {l l' : Leg} (hb : Below w.heap.size w w') (h : legCells w b o l) (h' : legCells w b' o' l') :
  Below w.heap.size w w' ∧ (w'.cell? ⟨b, o, none⟩ = some (.int .i64 l.sh) ∧ w'.cell? ⟨b, o + 1, none⟩ = some (.int .i64 l.ac) ∧ w'.cell? ⟨b, o + 2, none⟩ = some (.int .i64 l.ast) ∧ w'.cell? ⟨b, o + 3, none⟩ = some (.int .i64 l.am)) ∧
   (w'.cell? ⟨b', o', none⟩ = some (.int .i64 l'.sh) ∧ w'.cell? ⟨b', o' + 1, none⟩ = some (.int .i64 l'.ac) ∧ w'.cell? ⟨b', o' + 2, none⟩ = some (.int .i64 l'.ast) ∧ w'.cell? ⟨b', o' + 3, none⟩ = some (.int .i64 l'.am)) :=
 ⟨hb, legCells_below hb h, legCells_below hb h'⟩
theorem list_eq_of {xs ys : List Leg} (hl : ys.length = xs.length) (h : ∀ j, j < xs.length → xs.getD j default = ys.getD j default) : xs = ys := by
 apply List.ext_getElem (by omega)
 intro i h1 h2
 have := h i h1
 simpa [List.getD, h1, h2] using this
set_option maxHeartbeats 1000000 in
theorem eqLegS_any (x y : Value) (xs ys : List Leg) (w : World) (hx : LegsV w x xs) (hy : LegsV w y ys) :
  Calls Tryz.prog 45 #[x, y] w fun e w' => e = .returned (.bool (decide (xs = ys))) ∧ Below w.heap.size w w' := by
 obtain ⟨ax, cx, rfl, hcx, hmx, hx⟩ := hx
 obtain ⟨ay, cy, rfl, hcy, hmy, hy⟩ := hy
 unfold maxLen at hmx hmy
 by_cases hl : ys.length = xs.length
 ·
  rw [hl] at hcy hy ⊢
  have HL : Hid (ys.length = xs.length) := hl
  clear hl
  generalize hn : xs.length = n at *
  have HN : Hid (xs.length = n) := hn
  clear hn
  go_enter Tryz.func45, Tryz.ntmps45
  go_wp2
  go_loopw [5] (fun i w' => ∃ k : Nat, k ≤ n ∧ i = .int .i64 k ∧ (∀ j, j < k → xs.getD j default = ys.getD j default) ∧ Below w.heap.size w w') (fun i _ => n - (intOf i).toNat)
  case atStart => exact ⟨0, Nat.zero_le _, rfl, fun j h => absurd h (Nat.not_lt_zero _), Below.refl _ _⟩
  case round =>
   obtain ⟨k, hk, rfl, hpre, hbl⟩ := hrel
   have HP : Hid (∀ j, j < k → xs.getD j default = ys.getD j default) := hpre
   clear hpre
   by_cases hlt : k < n
   ·
    obtain ⟨bx, ox, rfl, h1⟩ := hx k hlt
    obtain ⟨b2, oy, rfl, h2⟩ := hy k hlt
    obtain ⟨l1, hl1⟩ : ∃ l, l = xs.getD k default := ⟨_, rfl⟩
    obtain ⟨l2, hl2⟩ : ∃ l, l = ys.getD k default := ⟨_, rfl⟩
    rw [← hl1] at h1
    rw [← hl2] at h2
    have H1 : Hid (l1 = xs.getD k default) := hl1
    have H2 : Hid (l2 = ys.getD k default) := hl2
    clear hl1 hl2 hx hy
    go_wp2
    go_region_held3 (fun w' => Below w.heap.size w w' ∧ (w'.cell? ⟨bx, ox + k * 4, none⟩ = some (.int .i64 l1.sh) ∧ w'.cell? ⟨bx, ox + k * 4 + 1, none⟩ = some (.int .i64 l1.ac) ∧ w'.cell? ⟨bx, ox + k * 4 + 2, none⟩ = some (.int .i64 l1.ast) ∧ w'.cell? ⟨bx, ox + k * 4 + 3, none⟩ = some (.int .i64 l1.am)) ∧ (w'.cell? ⟨b2, oy + k * 4, none⟩ = some (.int .i64 l2.sh) ∧ w'.cell? ⟨b2, oy + k * 4 + 1, none⟩ = some (.int .i64 l2.ac) ∧ w'.cell? ⟨b2, oy + k * 4 + 2, none⟩ = some (.int .i64 l2.ast) ∧ w'.cell? ⟨b2, oy + k * 4 + 3, none⟩ = some (.int .i64 l2.am))) ((refine keep2 ?_ h1 h2; repeat (first | exact bR _ _ | assumption | refine bD ?_ | refine bA ?_ _ | refine bS ?_ (by assumption)))) (first | (go_at_call 86; refine (eqLeg_any l1 l2 _).mono ?_; rintro e w' ⟨rfl, hb1⟩))
    rename_i hH
    have hB := hH.1
    clear hH
    go_wp2
    ·
     rename_i hle
     go_ret
     refine ⟨?_, hB⟩
     have : ¬ xs = ys := fun h => by
      have : l1 = l2 := by rw [H1.out, H2.out, h]
      simp [this] at hle
     simp [this]
    ·
     rename_i hle
     refine ⟨⟨k + 1, by omega, by go_num, fun j hj => ?_, hB⟩, by simp [intOf]; omega⟩
     by_cases hjk : j < k
     ·
      exact HP.out j hjk
     ·
      have : j = k := by omega
      subst this
      rw [← H1.out, ← H2.out]
      simpa using hle
   ·
    go_wp2
    go_ret
    have : k = n := by omega
    subst this
    refine ⟨?_, hbl⟩
    have : xs = ys := list_eq_of (by rw [HL.out, HN.out]) (by rw [HN.out]; exact HP.out)
    simp [this]
 ·
  go_enter Tryz.func45, Tryz.ntmps45
  have hl' : ((xs.length : Int) == (ys.length : Int)) = false := by simp; omega
  go_wp2
  go_ret
  have : ¬ xs = ys := fun h => hl (by rw [h])
  exact ⟨by simp [this], Below.refl _ _⟩
end Go.Proofs.YtndghenlapbaaaaGreat

