import Derived.Test.YtndghenlapbaaaaGreatDoorPrnShardTextLaw11
import Derived.Test.YtndghenlapbaaaaGreatDoorPrnShardTextLaw10
import Derived.Test.YtndghenlapbaaaaGreatDoorPrnShardTextLaw1
import Derived.RegionTactic
import Derived.ChangeAlike
import Derived.BigRegion
import Derived.Carry
import Derived.Deep.RegionHeld3
import Derived.Deep.DrawnRows
import Derived.BigQuiet
import Derived.Deep.QuietTactic

/-
  Chapter 2 in plain mathematics: what a book of a ledger holds.
-/
namespace Go.Proofs.YtndghenlapbaaaaGreatDoor
open Go.RowKit
set_option linter.unusedSectionVars false
variable [DecidableEq Bal] [Inhabited Bal] [DecidableEq Ledg] [Inhabited Ledg] [DecidableEq Leg] [Inhabited Leg]

def getB (a t : Int) : List Bal → Option Int
  | [] => none
  | x :: r => if x.ac = a ∧ x.ast = t then some x.am else getB a t r
theorem hasB_get (a t : Int) : ∀ xs : List Bal, hasB a t xs = (getB a t xs).getD 0
  | [] => rfl
  | x :: r => by
    simp only [hasB, getB]
    split
    · rfl
    · exact hasB_get a t r
theorem getB_append (a t : Int) : ∀ (l r : List Bal), getB a t (l ++ r) = (getB a t l).or (getB a t r)
  | [], r => by simp [getB]
  | x :: l, r => by
    simp only [List.cons_append, getB]
    split
    · simp
    · exact getB_append a t l r
theorem getB_none {a t : Int} : ∀ {xs : List Bal}, (∀ k, k < xs.length → ¬ ((xs.getD k default).ac = a ∧ (xs.getD k default).ast = t)) → getB a t xs = none
  | [], _ => rfl
  | x :: r, h => by
    have h0 := h 0 (by simp)
    simp only [List.getD_cons_zero] at h0
    simp only [getB, if_neg h0]
    exact getB_none (fun k hk => by have := h (k + 1) (by simpa using hk); simpa only [List.getD_cons_succ] using this)
theorem take_bal (xs : List Bal) (k : Nat) (h : k < xs.length) : xs.take (k + 1) = xs.take k ++ [xs.getD k default] := by
  rw [List.take_add_one]; simp [List.getD, h]
theorem rising {xs : List Bal} (h : BalsOk xs) {i : Nat} : ∀ {j : Nat}, i < j → j < xs.length → (xs.getD i default).ac * 3 + (xs.getD i default).ast < (xs.getD j default).ac * 3 + (xs.getD j default).ast
  | 0, hij, _ => by omega
  | j + 1, hij, hj => by
    have h1 := h.ord j hj
    have hb := behind_iff (b := xs.getD (j + 1) default) (a := xs.getD j default) (balOk_key (h.ok _ hj)) (balOk_key (h.ok _ (by omega)))
    have h2 : (xs.getD j default).ac * 3 + (xs.getD j default).ast < (xs.getD (j + 1) default).ac * 3 + (xs.getD (j + 1) default).ast := by
      refine Int.not_le.1 (fun h => ?_)
      rw [hb.2 h] at h1; cases h1
    by_cases e : i = j
    · subst e; exact h2
    · have := rising h (i := i) (j := j) (by omega) (by omega)
      omega
theorem getD_takeB {xs : List Bal} {k j : Nat} (h : j < k) : (xs.take k).getD j default = xs.getD j default := by
  simp [List.getD, h]
theorem getB_fresh {xs : List Bal} (h : BalsOk xs) {j : Nat} (hj : j < xs.length) : getB (xs.getD j default).ac (xs.getD j default).ast (xs.take j) = none := by
  apply getB_none
  intro k hk
  have hk' : k < j := by rw [List.length_take] at hk; omega
  rw [getD_takeB hk']
  have := rising h hk' hj
  rintro ⟨e1, e2⟩
  rw [e1, e2] at this
  omega
def bookP (g : List (List Bal)) (i j : Nat) (s a t : Int) : Option Int := if 0 ≤ s ∧ s < i then getB a t (g.getD s.toNat default) else if s = i then getB a t ((g.getD i default).take j) else none
def bookF (g : List (List Bal)) (s a t : Int) : Option Int := if 0 ≤ s ∧ s < g.length then getB a t (g.getD s.toNat default) else none
theorem bookP_start (g : List (List Bal)) (s a t : Int) : bookP g 0 0 s a t = none := by
  unfold bookP
  rw [if_neg (by omega)]
  split
  · rfl
  · rfl
theorem bookP_step {g : List (List Bal)} {i j : Nat} (h : BalsOk (g.getD i default)) (hj : j < (g.getD i default).length) (s a t : Int) :
    bookP g i (j + 1) s a t = upd3 (bookP g i j) i ((g.getD i default).getD j default).ac ((g.getD i default).getD j default).ast (some ((g.getD i default).getD j default).am) s a t := by
  have hf := getB_fresh h hj
  unfold upd3 bookP
  rw [take_bal _ _ hj, getB_append]
  by_cases hs : 0 ≤ s ∧ s < (i : Int)
  · rw [if_pos hs, if_neg (by rintro ⟨rfl, _⟩; omega), if_pos hs]
  · rw [if_neg hs, if_neg hs]
    by_cases e : s = i
    · rw [if_pos e, if_pos e]
      by_cases e2 : a = ((g.getD i default).getD j default).ac ∧ t = ((g.getD i default).getD j default).ast
      · rw [if_pos ⟨e, e2.1, e2.2⟩, e2.1, e2.2, hf]
        simp [getB]
      · rw [if_neg (fun h => e2 h.2)]
        simp only [getB]
        rw [if_neg (fun h => e2 ⟨h.1.symm, h.2.symm⟩)]
        simp
    · rw [if_neg e, if_neg e, if_neg (fun h => e h.1)]
theorem bookP_next (g : List (List Bal)) (i : Nat) (s a t : Int) : bookP g (i + 1) 0 s a t = bookP g i (g.getD i default).length s a t := by
  unfold bookP
  rw [List.take_length]
  by_cases e : s = i
  · subst e
    rw [if_pos (by omega), if_neg (by omega), if_pos rfl]
    simp
  · by_cases hs : 0 ≤ s ∧ s < (i : Int)
    · rw [if_pos (by omega), if_pos hs]
    · rw [if_neg (by omega), if_neg hs, if_neg e]
      split
      · rfl
      · rfl
theorem bookP_end (g : List (List Bal)) (s a t : Int) : bookF g s a t = bookP g g.length 0 s a t := by
  unfold bookP bookF
  split
  · rfl
  · split
    · rfl
    · rfl
end Go.Proofs.YtndghenlapbaaaaGreatDoor

/-
  Cells that are kept. (Written by program: lawgen.py.)
-/
namespace Go.Proofs.YtndghenlapbaaaaGreatDoor
open Go.RowKit
theorem keepN14 {w w' : World} {a0 : Addr} {x0 : Value} {a1 : Addr} {x1 : Value} {a2 : Addr} {x2 : Value} {a3 : Addr} {x3 : Value} {a4 : Addr} {x4 : Value} {a5 : Addr} {x5 : Value} {a6 : Addr} {x6 : Value} {a7 : Addr} {x7 : Value} {a8 : Addr} {x8 : Value} {a9 : Addr} {x9 : Value} {a10 : Addr} {x10 : Value} {a11 : Addr} {x11 : Value} {a12 : Addr} {x12 : Value} {a13 : Addr} {x13 : Value} (hb : Below w.heap.size w w') (g0 : w.cell? a0 = some x0) (g1 : w.cell? a1 = some x1) (g2 : w.cell? a2 = some x2) (g3 : w.cell? a3 = some x3) (g4 : w.cell? a4 = some x4) (g5 : w.cell? a5 = some x5) (g6 : w.cell? a6 = some x6) (g7 : w.cell? a7 = some x7) (g8 : w.cell? a8 = some x8) (g9 : w.cell? a9 = some x9) (g10 : w.cell? a10 = some x10) (g11 : w.cell? a11 = some x11) (g12 : w.cell? a12 = some x12) (g13 : w.cell? a13 = some x13) : Below w.heap.size w w' ∧ w'.cell? a0 = some x0 ∧ w'.cell? a1 = some x1 ∧ w'.cell? a2 = some x2 ∧ w'.cell? a3 = some x3 ∧ w'.cell? a4 = some x4 ∧ w'.cell? a5 = some x5 ∧ w'.cell? a6 = some x6 ∧ w'.cell? a7 = some x7 ∧ w'.cell? a8 = some x8 ∧ w'.cell? a9 = some x9 ∧ w'.cell? a10 = some x10 ∧ w'.cell? a11 = some x11 ∧ w'.cell? a12 = some x12 ∧ w'.cell? a13 = some x13 :=
  ⟨hb, cell_keep hb g0, cell_keep hb g1, cell_keep hb g2, cell_keep hb g3, cell_keep hb g4, cell_keep hb g5, cell_keep hb g6, cell_keep hb g7, cell_keep hb g8, cell_keep hb g9, cell_keep hb g10, cell_keep hb g11, cell_keep hb g12, cell_keep hb g13⟩
theorem keepS4 {w W W' : World} {a1 a2 a3 a4 : Addr} {v1 v2 v3 v4 : Value} (h : Below w.heap.size w W ∧ W.cell? a1 = some v1 ∧ W.cell? a2 = some v2 ∧ W.cell? a3 = some v3 ∧ W.cell? a4 = some v4) (hb : Below W.heap.size W W') : Below w.heap.size w W' ∧ W'.cell? a1 = some v1 ∧ W'.cell? a2 = some v2 ∧ W'.cell? a3 = some v3 ∧ W'.cell? a4 = some v4 :=
  ⟨bstep h.1 hb, cell_keep hb (h.2.1), cell_keep hb (h.2.2.1), cell_keep hb (h.2.2.2.1), cell_keep hb (h.2.2.2.2)⟩
theorem keepS4g {w W W' : World} {a1 a2 a3 a4 : Addr} {v1 v2 v3 v4 : Value} {b : Nat} (h : Below w.heap.size w W ∧ W.cell? a1 = some v1 ∧ W.cell? a2 = some v2 ∧ W.cell? a3 = some v3 ∧ W.cell? a4 = some v4) (hg : W.grownBy W' (some b)) (hl : w.heap.size ≤ b) (n1 : some a1.block ≠ some b) (n2 : some a2.block ≠ some b) (n3 : some a3.block ≠ some b) (n4 : some a4.block ≠ some b) : Below w.heap.size w W' ∧ W'.cell? a1 = some v1 ∧ W'.cell? a2 = some v2 ∧ W'.cell? a3 = some v3 ∧ W'.cell? a4 = some v4 :=
  ⟨h.1.grown hg h.1.size (fun k e => by cases e; exact hl), hg.cell (h.2.1) n1, hg.cell (h.2.2.1) n2, hg.cell (h.2.2.2.1) n3, hg.cell (h.2.2.2.2) n4⟩
theorem keepS5 {w W W' : World} {a1 a2 a3 a4 a5 : Addr} {v1 v2 v3 v4 v5 : Value} (h : Below w.heap.size w W ∧ W.cell? a1 = some v1 ∧ W.cell? a2 = some v2 ∧ W.cell? a3 = some v3 ∧ W.cell? a4 = some v4 ∧ W.cell? a5 = some v5) (hb : Below W.heap.size W W') : Below w.heap.size w W' ∧ W'.cell? a1 = some v1 ∧ W'.cell? a2 = some v2 ∧ W'.cell? a3 = some v3 ∧ W'.cell? a4 = some v4 ∧ W'.cell? a5 = some v5 :=
  ⟨bstep h.1 hb, cell_keep hb (h.2.1), cell_keep hb (h.2.2.1), cell_keep hb (h.2.2.2.1), cell_keep hb (h.2.2.2.2.1), cell_keep hb (h.2.2.2.2.2)⟩
end Go.Proofs.YtndghenlapbaaaaGreatDoor

/-
  The program's book of a ledger: made, asked.
-/
namespace Go.Proofs.YtndghenlapbaaaaGreatDoor
open Go.RowKit
set_option linter.unusedSectionVars false
variable [DecidableEq Bal] [Inhabited Bal] [DecidableEq Ledg] [Inhabited Ledg] [DecidableEq Leg] [Inhabited Leg]
attribute [local go_sem ↓] Go.wp_at_zero Go.wp_at_succ

theorem keyOf_any (s a t : Int) (w : World) : Calls Tryz.prog 97 #[.int .i64 s, .int .i64 a, .int .i64 t] w fun e w' => e = .returned (kv s a t) ∧ Below w.heap.size w w' := by
  go_enter Tryz.func97, Tryz.ntmps97
  go_wp2
  refine bodyPost_ret (v := .agg #[.int .i64 s, .int .i64 a, .int .i64 t]) (by simp [results, Tryz.results97, go_sem]) rfl ⟨rfl, by (repeat (first | exact Below.refl _ _ | assumption | refine Below.drew ?_ | refine balloc ?_ _ | refine bset ?_ (by simp; omega) _ | refine bset ?_ (by simp) _ | refine bstep ?_ (by assumption)))⟩
structure BkC (W : World) (B n : Nat) : Prop where
  res : W.heap[B + 1]? = some (.cells #[.int .i64 0, .map none] 89)
  bk : W.heap[B + 1 + 1 + 1]? = some (.cells #[.int .i64 n, .map (some (B + 1 + 1))] 89)
theorem lt_of_get {W : World} {b : Nat} {o : Obj} (h : W.heap[b]? = some o) : b < W.heap.size := by
  rcases Nat.lt_or_ge b W.heap.size with h' | h'
  · exact h'
  · rw [Array.getElem?_eq_none h'] at h; cases h
theorem heap_new {w : World} {o : Obj} {b : Nat} (h : b = w.heap.size) : (w.alloc o).heap[b]? = some o := by rw [h]; exact (MapKept.heap_alloc w o).1
theorem heap_old {w : World} {o : Obj} {b : Nat} (h : b < w.heap.size) : (w.alloc o).heap[b]? = w.heap[b]? := (MapKept.heap_alloc w o).2 b h
theorem BkC.below {W W' : World} {B n : Nat} (h : BkC W B n) (hb : Below W.heap.size W W') : BkC W' B n :=
  ⟨(hb.block _ (lt_of_get h.res)).trans h.res, (hb.block _ (lt_of_get h.bk)).trans h.bk⟩
theorem BkC.grown {W W' : World} {B n : Nat} (h : BkC W B n) (hg : W.grownBy W' (some (B + 1 + 1))) : BkC W' B n :=
  ⟨(hg.block _ (lt_of_get h.res) (by simp)).trans h.res, (hg.block _ (lt_of_get h.bk) (by simp)).trans h.bk⟩
theorem cellOf {W : World} {b t : Nat} {cs : Array Value} (h : W.heap[b]? = some (.cells cs t)) (i : Nat) : W.cell? ⟨b, i, none⟩ = cs[i]? := by
  simp [World.cell?, h]
theorem unfrozen {W : World} {b t : Nat} {cs : Array Value} (h : W.heap[b]? = some (.cells cs t)) (i : Nat) : W.frozen? ⟨b, i, none⟩ = false := by
  simp [World.frozen?, h]
set_option maxHeartbeats 4000000 in
theorem bookOf_any (x : Value) (g : Ledg) (w : World) (hx : ledgR.V w x g) (h0 : ledFault g = 0) :
    Calls Tryz.prog 73 #[x] w fun e w' => ∃ b, e = .returned (.agg #[.int .i64 g.shards.length, .map (some b)]) ∧ w.heap.size ≤ b ∧ Book w' b 54 (bookF g.shards) ∧ Below w.heap.size w w' := by
  obtain ⟨hl1, hl3, hok⟩ := ledOk_of h0
  obtain ⟨u, rfl, ax, cx, rfl, hcx, hmx, hxx⟩ := hx
  unfold maxLen at hmx
  have HOK : Hid (∀ k, k < g.shards.length → BalsOk (g.shards.getD k default)) := hok
  clear hok h0
  generalize hn' : g.shards.length = n at *
  have HN : Hid (g.shards.length = n) := hn'
  clear hn'
  have hmm := @run_makeMap Tryz.prog
  go_enter Tryz.func73, Tryz.ntmps73
  go_wp2
  go_loopw [16] (fun i w' => ∃ k : Nat, k ≤ n ∧ i = .int .i64 k ∧ Book w' (w.heap.size + 1 + 1) (k * 18) (bookP g.shards k 0) ∧ BkC w' w.heap.size n ∧ Below w.heap.size w w') (fun i _ => n - (intOf i).toNat)
  case atStart =>
    refine ⟨0, Nat.zero_le _, rfl, ?_, ⟨?_, ?_⟩, by (repeat (first | exact Below.refl _ _ | assumption | refine Below.drew ?_ | refine balloc ?_ _ | refine bset ?_ (by simp; omega) _ | refine bset ?_ (by simp) _ | refine bstep ?_ (by assumption)))⟩
    · have h1 := book_made ((w.alloc (Obj.cells #[Value.slice ax n cx] 123)).alloc (Obj.cells #[Value.int IntKind.i64 0, Value.map none] 89))
      simp only [World.size_alloc] at h1
      exact (h1.below (balloc (Below.refl _ _) _)).cast (fun s a t _ => bookP_start _ _ _ _)
    · exact (heap_old (by simp)).trans ((heap_old (by simp)).trans (heap_new (by simp)))
    · exact heap_new (by simp)
  case round =>
    obtain ⟨k, hk, rfl, hB, hC, hbl⟩ := hrel
    by_cases hlt : k < n
    · obtain ⟨bx, ox, u, rfl, _, hc, hu⟩ := hxx k hlt
      have c1 := cell_keep hbl (cells1 hc)
      have hb0 : BalsOk (g.shards.getD k default) := HOK.out k hlt
      have HB0 : Hid (BalsOk (g.shards.getD k default)) := hb0
      clear hc hxx hb0
      obtain ⟨l, hl⟩ : ∃ l, l = g.shards.getD k default := ⟨_, rfl⟩
      rw [← hl] at hu
      have HL : Hid (l = g.shards.getD k default) := hl
      clear hl
      obtain ⟨a', c', rfl, hcc, hmc, hu⟩ := hu
      unfold maxLen at hmc
      have hl18 : l.length ≤ 18 := by rw [HL.out]; exact HB0.out.len
      generalize hm' : l.length = m at *
      have HM : Hid (l.length = m) := hm'
      clear hm'
      go_wp2
      go_loopw [23] (fun i w' => ∃ j : Nat, j ≤ m ∧ i = .int .i64 j ∧ Book w' (w.heap.size + 1 + 1) (k * 18 + j) (bookP g.shards k j) ∧ BkC w' w.heap.size n ∧ Below w.heap.size w w') (fun i _ => m - (intOf i).toNat)
      case atStart => exact ⟨0, Nat.zero_le _, rfl, hB, hC, hbl⟩
      case round =>
        obtain ⟨j, hj, rfl, hB3, hC3, hb3⟩ := hrel
        by_cases hlt3 : j < m
        · obtain ⟨b5, o5, rfl, g1⟩ := hu j hlt3
          obtain ⟨q, hq⟩ : ∃ q, q = l.getD j default := ⟨_, rfl⟩
          rw [← hq] at g1
          have HQ : Hid (q = l.getD j default) := hq
          have hqok : balOk q = true := by rw [hq, HL.out]; exact HB0.out.ok j (by rw [← HL.out, HM.out]; exact hlt3)
          clear hq hu
          obtain ⟨⟨⟨p1, p2⟩, p3, p4⟩, p5, p6⟩ := balOk_iff.1 hqok
          have hw : kwf k q.ac q.ast := ⟨wf_of (by omega) (by omega), wf_of (by omega) (by omega), wf_of (by omega) (by omega)⟩
          have hv : (Lit.int .i64 q.am).wf = true := wf_of (by omega) (by omega)
          obtain ⟨e1, e2, e3⟩ := balCells_below hb3 g1
          have hlx : w.heap.size + 1 + 1 < wr.heap.size := hB3.lt
          have h0 : Below w.heap.size w (wr.alloc (.cells #[.int .i64 q.ac, .int .i64 q.ast, .int .i64 q.am] 61)) ∧ (wr.alloc (.cells #[.int .i64 q.ac, .int .i64 q.ast, .int .i64 q.am] 61)).cell? ⟨w.heap.size + 1 + 1 + 1, 1, none⟩ = some (.map (some (w.heap.size + 1 + 1))) ∧ (wr.alloc (.cells #[.int .i64 q.ac, .int .i64 q.ast, .int .i64 q.am] 61)).cell? ⟨wr.heap.size, 0, none⟩ = some (.int .i64 q.ac) ∧ (wr.alloc (.cells #[.int .i64 q.ac, .int .i64 q.ast, .int .i64 q.am] 61)).cell? ⟨wr.heap.size, 1, none⟩ = some (.int .i64 q.ast) ∧ (wr.alloc (.cells #[.int .i64 q.ac, .int .i64 q.ast, .int .i64 q.am] 61)).cell? ⟨wr.heap.size, 2, none⟩ = some (.int .i64 q.am) :=
            ⟨by (repeat (first | exact Below.refl _ _ | assumption | refine Below.drew ?_ | refine balloc ?_ _ | refine bset ?_ (by simp; omega) _ | refine bset ?_ (by simp) _ | refine bstep ?_ (by assumption))), cell_keep (balloc (Below.refl _ _) _) ((cellOf hC3.bk 1).trans rfl), by simp [go_sem], by simp [go_sem], by simp [go_sem]⟩
          have hBW := hB3.below (balloc (Below.refl _ _) (.cells #[.int .i64 q.ac, .int .i64 q.ast, .int .i64 q.am] 61))
          have hCW := hC3.below (balloc (Below.refl _ _) (.cells #[.int .i64 q.ac, .int .i64 q.ast, .int .i64 q.am] 61))
          have hnm : k * 18 + j < maxLen := by unfold maxLen; omega
          have y1 : some (w.heap.size + 1 + 1 + 1) ≠ some (w.heap.size + 1 + 1) := by simp
          have y2 : some wr.heap.size ≠ some (w.heap.size + 1 + 1) := by simp; omega
          have y3 : w.heap.size ≤ w.heap.size + 1 + 1 := by omega
          go_wp2
          generalize hW : wr.alloc (.cells #[.int .i64 q.ac, .int .i64 q.ast, .int .i64 q.am] 61) = W at *
          clear hW e1 e2 e3 g1 hB3 hC3 hb3 c1
          go_region_held3 (fun w' => Below w.heap.size w w' ∧ w'.cell? ⟨w.heap.size + 1 + 1 + 1, 1, none⟩ = some (.map (some (w.heap.size + 1 + 1))) ∧ w'.cell? ⟨wr.heap.size, 0, none⟩ = some (.int .i64 q.ac) ∧ w'.cell? ⟨wr.heap.size, 1, none⟩ = some (.int .i64 q.ast) ∧ w'.cell? ⟨wr.heap.size, 2, none⟩ = some (.int .i64 q.am))
            ((first | exact keepS4 h0 (Below.drew (Below.refl _ _)) | exact hS3 | exact hS4))
            (first | (go_at_call 97; refine (keyOf_any _ _ _ _).mono ?_; rintro e w3 ⟨rfl, hb5⟩; have hS3 := keepS4 (keepS4 h0 (Below.drew (Below.refl _ _))) hb5; obtain ⟨w4, hrun, hB4, hg4⟩ := ((hBW.below (Below.drew (Below.refl _ _))).below hb5).put hw hv hnm; have hS4 := keepS4g hS3 hg4 y3 y1 y2 y2 y2))
          have hC4 := ((hCW.below (Below.drew (Below.refl _ _))).below hb5).grown hg4
          have hbw := hS4.1
          clear hrun hS3 hS4
          go_wp2
          refine ⟨⟨j + 1, by omega, by go_num, ?_, hC4, hbw⟩, by simp [intOf]; omega⟩
          refine hB4.cast (fun s a t _ => ?_)
          rw [bookP_step HB0.out (by rw [← HL.out, HM.out]; exact hlt3), ← HL.out, ← HQ.out]
        · go_wp2
          have hjm : j = m := by omega
          subst hjm
          refine ⟨⟨k + 1, by omega, by go_num, ?_, hC3, hb3⟩, by simp [intOf]; omega⟩
          refine (hB3.mono (by omega)).cast (fun s a t _ => ?_)
          rw [bookP_next, ← HL.out, HM.out]
    · have hkn : k = n := by omega
      subst hkn
      have d0 := cellOf hC.bk 0
      have d1 := cellOf hC.bk 1
      have r0 := cellOf hC.res 0
      have r1 := cellOf hC.res 1
      have f0 := unfrozen hC.res 0
      have f1 := unfrozen hC.res 1
      simp at d0 d1 r0 r1
      go_wp2
      refine bodyPost_ret (v := .agg #[.int .i64 k, .map (some (w.heap.size + 1 + 1))]) ?_ rfl ⟨w.heap.size + 1 + 1, rfl, by omega, ?_, by (repeat (first | exact Below.refl _ _ | assumption | refine Below.drew ?_ | refine balloc ?_ _ | refine bset ?_ (by simp; omega) _ | refine bset ?_ (by simp) _ | refine bstep ?_ (by assumption)))⟩
      · simp [results, Tryz.results73, go_sem, r0, r1]
      · refine Book.cast (((hB.turned (Mod.of_set _ _ _) (by simp)).turned (Mod.of_set _ _ _) (by simp)).mono (by omega)) (fun s a t _ => ?_)
        rw [bookP_end, HN.out]
end Go.Proofs.YtndghenlapbaaaaGreatDoor

/-
  BalancesFault on both sides.
-/
namespace Go.Proofs.YtndghenlapbaaaaGreatDoor
open Go.RowKit
set_option linter.unusedSectionVars false
variable [DecidableEq Bal] [Inhabited Bal] [DecidableEq Ledg] [Inhabited Ledg] [DecidableEq Leg] [Inhabited Leg]
attribute [local go_sem ↓] Go.wp_at_zero Go.wp_at_succ

theorem l2Key_any (a s : Int) (w : World) : Calls Tryz.prog 79 #[.int .i64 a, .int .i64 s] w fun e w' => e = .returned (.bool (keyOk a s)) ∧ w' = w := by
  unfold keyOk
  cases h1 : inB a 0 5
  all_goals
    go_enter Tryz.func79, Tryz.ntmps79
    go_wp2_with (go_at_call 49; refine (l1In_any _ _ _ _).mono ?_; rintro e w' ⟨rfl, rfl⟩)
    go_ret
    exact ⟨by simp, rfl⟩
theorem isBalance_any (x : Bal) (w : World) : Calls Tryz.prog 102 #[.agg #[.int .i64 x.ac, .int .i64 x.ast, .int .i64 x.am]] w fun e w' => e = .returned (.bool (balOk x)) ∧ Below w.heap.size w w' := by
  unfold balOk keyOk
  cases h1 : inB x.ac 0 5
  · go_enter Tryz.func102, Tryz.ntmps102
    go_wp2_with (go_at_call 118; refine (isAccount_any _ _).mono ?_; rintro e w' ⟨rfl, rfl⟩)
    go_ret
    exact ⟨by simp, balloc (Below.refl _ _) _⟩
  cases h2 : inB x.ast 0 2
  all_goals
    go_enter Tryz.func102, Tryz.ntmps102
    go_wp2_with (first | (go_at_call 118; refine (isAccount_any _ _).mono ?_; rintro e w' ⟨rfl, rfl⟩) | (go_at_call 119; refine (isAsset_any _ _).mono ?_; rintro e w' ⟨rfl, rfl⟩) | (go_at_call 87; refine (within_any _ _ _ _).mono ?_; rintro e w' ⟨rfl, rfl⟩))
    go_ret
    exact ⟨by simp, balloc (Below.refl _ _) _⟩
theorem standsBehind_any (x y : Bal) (w : World) : Calls Tryz.prog 103 #[.agg #[.int .i64 x.ac, .int .i64 x.ast, .int .i64 x.am], .agg #[.int .i64 y.ac, .int .i64 y.ast, .int .i64 y.am]] w fun e w' => e = .returned (.bool (behind x y)) ∧ Below w.heap.size w w' := by
  unfold behind
  go_enter Tryz.func103, Tryz.ntmps103
  go_wp2
  all_goals
    go_ret
    exact ⟨by simp_all, balloc (balloc (Below.refl _ _) _) _⟩
theorem balAt_bad {xs : List Bal} {k : Nat} (h : balOk (xs.getD k default) = false) : balAt xs k = 3 := by unfold balAt; rw [h]; rfl
theorem balAt_first {xs : List Bal} (h : balOk (xs.getD 0 default) = true) : balAt xs 0 = 0 := by simp only [balAt, h]; simp
theorem balAt_next {xs : List Bal} {k : Nat} (h : balOk (xs.getD (k + 1) default) = true) : balAt xs (k + 1) = if behind (xs.getD (k + 1) default) (xs.getD k default) = false then 1 else 0 := by
  simp only [balAt, h, if_true, Nat.add_sub_cancel]
  simp
theorem balFault_hit {xs : List Bal} {k : Nat} {c : Int} (h18 : xs.length ≤ 18) (hk : k < xs.length) (h : scanI (balAt xs) k = 0) (hc : balAt xs k = c) (h0 : c ≠ 0) : balFault xs = c := by
  rw [balFault, if_neg (by omega), scanI_hit h (by rw [hc]; exact h0) _ hk, hc]
theorem balAt_ok {xs : List Bal} {k : Nat} (h : balAt xs k = 0) : balOk (xs.getD k default) = true := by
  cases e : balOk (xs.getD k default) with
  | true => rfl
  | false => rw [balAt_bad e] at h; omega
set_option maxHeartbeats 2000000 in
theorem specBalFault_any (x : Value) (xs : List Bal) (w : World) (hx : balsR.V w x xs) :
    Calls Tryz.prog 50 #[x] w fun e w' => e = .returned (.int .i64 (balFault xs)) ∧ Below w.heap.size w w' := by
  obtain ⟨ax, cx, rfl, hcx, hmx, hx⟩ := hx
  unfold maxLen at hmx
  by_cases h18 : 18 < xs.length
  · have e : balFault xs = 2 := by simp [balFault, h18]
    rw [e]
    go_enter Tryz.func50, Tryz.ntmps50
    go_wp2
    go_ret
    exact ⟨rfl, Below.refl _ _⟩
  generalize hn' : xs.length = n at *
  have HN : Hid (xs.length = n) := hn'
  clear hn'
  go_enter Tryz.func50, Tryz.ntmps50
  go_wp2
  go_loopw [3] (fun i w' => ∃ k : Nat, k ≤ n ∧ i = .int .i64 k ∧ scanI (balAt xs) k = 0 ∧ Below w.heap.size w w') (fun i _ => n - (intOf i).toNat)
  case atStart => exact ⟨0, Nat.zero_le _, rfl, rfl, Below.refl _ _⟩
  case round =>
    obtain ⟨k, hk, rfl, hs, hbl⟩ := hrel
    have HS : Hid (scanI (balAt xs) k = 0) := hs
    clear hs
    by_cases hlt : k < n
    · obtain ⟨bx, ox, rfl, g1⟩ := hx k hlt
      obtain ⟨l, hl⟩ : ∃ l, l = xs.getD k default := ⟨_, rfl⟩
      rw [← hl] at g1
      have HL : Hid (l = xs.getD k default) := hl
      clear hl
      obtain ⟨a1, a2, a3⟩ := balCells_below hbl g1
      cases h1 : keyOk l.ac l.ast
      · clear hx
        go_wp2_with (first | (go_at_call 79; refine (l2Key_any _ _ _).mono ?_; rintro e w' ⟨rfl, rfl⟩) | (go_at_call 49; refine (l1In_any _ _ _ _).mono ?_; rintro e w' ⟨rfl, rfl⟩))
        go_ret
        refine ⟨?_, balloc hbl _⟩
        rw [balFault_hit (k := k) (c := 3) (by rw [HN.out]; omega) (by rw [HN.out]; exact hlt) HS.out (balAt_bad (by rw [← HL.out]; simp [balOk, h1])) (by omega)]
        rfl
      cases h2 : inB l.am 1 1000000000000
      · clear hx
        go_wp2_with (first | (go_at_call 79; refine (l2Key_any _ _ _).mono ?_; rintro e w' ⟨rfl, rfl⟩) | (go_at_call 49; refine (l1In_any _ _ _ _).mono ?_; rintro e w' ⟨rfl, rfl⟩))
        go_ret
        refine ⟨?_, balloc hbl _⟩
        rw [balFault_hit (k := k) (c := 3) (by rw [HN.out]; omega) (by rw [HN.out]; exact hlt) HS.out (balAt_bad (by rw [← HL.out]; simp [balOk, h2])) (by omega)]
        rfl
      have hok : balOk (xs.getD k default) = true := by rw [← HL.out]; simp [balOk, h1, h2]
      cases k with
      | zero =>
        clear hx
        simp only [Nat.zero_mul, Nat.add_zero] at a1 a2 a3
        go_wp2_with (first | (go_at_call 79; refine (l2Key_any _ _ _).mono ?_; rintro e w' ⟨rfl, rfl⟩) | (go_at_call 49; refine (l1In_any _ _ _ _).mono ?_; rintro e w' ⟨rfl, rfl⟩))
        go_quiet (fail)
        go_wp2
        exact ⟨⟨1, by omega, by go_num, scanI_succ HS.out (balAt_first hok), bdrewN (balloc hbl _) _⟩, by simp [intOf]; omega⟩
      | succ m =>
        obtain ⟨b', o', he, g2⟩ := hx m (by omega)
        simp only [Option.some.injEq, Addr.mk.injEq, and_true] at he
        obtain ⟨rfl, rfl⟩ := he
        have hok' : balOk (xs.getD m default) = true := balAt_ok (scanI_zero HS.out m (by omega))
        obtain ⟨o, ho⟩ : ∃ o, o = xs.getD m default := ⟨_, rfl⟩
        rw [← ho] at g2 hok'
        have HO : Hid (o = xs.getD m default) := ho
        clear ho hx
        obtain ⟨d1, d2, d3⟩ := balCells_below hbl g2
        obtain ⟨⟨⟨p1, p2⟩, p3, p4⟩, p5, p6⟩ := balOk_iff.1 hok'
        obtain ⟨⟨q1, q2⟩, q3, q4⟩ := keyOk_iff.1 h1
        have i1 : (m : Int) < (n : Int) := by omega
        have z5 : bx < wr.heap.size := World.block_lt_of_cell? wr _ d1
        have i2 : m < n := by omega
        have v1 : IntKind.i64.wrap (m : Int) = m := wrapId (by omega) (by omega)
        have v2 : IntKind.i64.wrap (l.ac * 3) = l.ac * 3 := wrapId (by omega) (by omega)
        have v3 : IntKind.i64.wrap (l.ac * 3 + l.ast) = l.ac * 3 + l.ast := wrapId (by omega) (by omega)
        have v4 : IntKind.i64.wrap (o.ac * 3) = o.ac * 3 := wrapId (by omega) (by omega)
        have v5 : IntKind.i64.wrap (o.ac * 3 + o.ast) = o.ac * 3 + o.ast := wrapId (by omega) (by omega)
        have hbi := behind_iff (b := l) (a := o) h1 (balOk_key hok')
        have HBI : Hid (behind l o = false ↔ l.ac * 3 + l.ast ≤ o.ac * 3 + o.ast) := hbi
        clear hbi
        go_wp2_with (first | (go_at_call 79; refine (l2Key_any _ _ _).mono ?_; rintro e w' ⟨rfl, rfl⟩) | (go_at_call 49; refine (l1In_any _ _ _ _).mono ?_; rintro e w' ⟨rfl, rfl⟩))
        go_quiet (fail)
        go_wp2
        · rename_i hle
          go_ret
          refine ⟨?_, bdrewN (balloc hbl _) _⟩
          have hb0 : balAt xs (m + 1) = 1 := by rw [balAt_next hok, ← HL.out, ← HO.out, if_pos (HBI.out.2 hle)]
          rw [balFault_hit (k := m + 1) (c := 1) (by rw [HN.out]; omega) (by rw [HN.out]; exact hlt) HS.out hb0 (by omega)]
          rfl
        · rename_i hle
          refine ⟨⟨m + 1 + 1, by omega, by go_num, scanI_succ HS.out ?_, bdrewN (balloc hbl _) _⟩, by simp [intOf]; omega⟩
          rw [balAt_next hok, ← HL.out, ← HO.out, if_neg (fun e => by have := HBI.out.1 e; omega)]
    · go_wp2
      go_ret
      have hkn : k = n := by omega
      subst hkn
      refine ⟨?_, hbl⟩
      rw [balFault, if_neg (by rw [HN.out]; omega), HN.out, HS.out]
      rfl
set_option maxHeartbeats 2000000 in
theorem implBalFault_any (x : Value) (xs : List Bal) (w : World) (hx : balsR.V w x xs) :
    Calls Tryz.prog 85 #[x] w fun e w' => e = .returned (.int .i64 (balFault xs)) ∧ Below w.heap.size w w' := by
  obtain ⟨ax, cx, rfl, hcx, hmx, hx⟩ := hx
  unfold maxLen at hmx
  by_cases h18 : 18 < xs.length
  · have e : balFault xs = 2 := by simp [balFault, h18]
    rw [e]
    go_enter Tryz.func85, Tryz.ntmps85
    go_wp2
    go_ret
    exact ⟨rfl, Below.refl _ _⟩
  generalize hn' : xs.length = n at *
  have HN : Hid (xs.length = n) := hn'
  clear hn'
  go_enter Tryz.func85, Tryz.ntmps85
  go_wp2
  go_loopw [10] (fun i w' => ∃ k : Nat, k ≤ n ∧ i = .int .i64 k ∧ scanI (balAt xs) k = 0 ∧ Below w.heap.size w w') (fun i _ => n - (intOf i).toNat)
  case atStart => exact ⟨0, Nat.zero_le _, rfl, rfl, Below.refl _ _⟩
  case round =>
    obtain ⟨k, hk, rfl, hs, hbl⟩ := hrel
    have HS : Hid (scanI (balAt xs) k = 0) := hs
    clear hs
    by_cases hlt : k < n
    · obtain ⟨bx, ox, rfl, g1⟩ := hx k hlt
      obtain ⟨l, hl⟩ : ∃ l, l = xs.getD k default := ⟨_, rfl⟩
      rw [← hl] at g1
      have HL : Hid (l = xs.getD k default) := hl
      clear hl
      obtain ⟨a1, a2, a3⟩ := balCells_below hbl g1
      cases hok : balOk l
      · clear hx
        go_wp2_with (go_at_call 102; refine (isBalance_any l _).mono ?_; rintro e w' ⟨rfl, hb⟩)
        go_ret
        refine ⟨?_, bstep (balloc hbl _) hb⟩
        rw [balFault_hit (k := k) (c := 3) (by rw [HN.out]; omega) (by rw [HN.out]; exact hlt) HS.out (balAt_bad (by rw [← HL.out]; exact hok)) (by omega)]
        rfl
      have hok2 : balOk (xs.getD k default) = true := by rw [← HL.out]; exact hok
      cases k with
      | zero =>
        clear hx
        simp only [Nat.zero_mul, Nat.add_zero] at a1 a2 a3
        go_wp2_with (go_at_call 102; refine (isBalance_any l _).mono ?_; rintro e w' ⟨rfl, hb⟩)
        go_quiet (fail)
        go_wp2
        exact ⟨⟨1, by omega, by go_num, scanI_succ HS.out (balAt_first hok2), bdrewN (bstep (balloc hbl _) hb) _⟩, by simp [intOf]; omega⟩
      | succ m =>
        obtain ⟨b', o', he, g2⟩ := hx m (by omega)
        simp only [Option.some.injEq, Addr.mk.injEq, and_true] at he
        obtain ⟨rfl, rfl⟩ := he
        obtain ⟨o, ho⟩ : ∃ o, o = xs.getD m default := ⟨_, rfl⟩
        rw [← ho] at g2
        have HO : Hid (o = xs.getD m default) := ho
        clear ho hx
        obtain ⟨d1, d2, d3⟩ := balCells_below hbl g2
        have i1 : (m : Int) < (n : Int) := by omega
        have v1 : IntKind.i64.wrap (m : Int) = m := wrapId (by omega) (by omega)
        go_wp2_with (go_at_call 102; refine (isBalance_any l _).mono ?_; rintro e w' ⟨rfl, hb⟩)
        have hB := bstep (balloc hbl _) hb
        have g3 := balCells_below hB g2
        have g4 : balCells w' wr.heap.size 0 l := ⟨cell_keep hb (by simp [go_sem]), cell_keep hb (by simp [go_sem]), cell_keep hb (by simp [go_sem])⟩
        clear hb d1 d2 d3 a1 a2 a3 g1 g2
        have z5 : bx < w'.heap.size := World.block_lt_of_cell? w' _ g3.1
        have z6 : wr.heap.size < w'.heap.size := World.block_lt_of_cell? w' _ g4.1
        go_region_held3 (fun w'' => Below w'.heap.size w' w'' ∧ (w''.cell? ⟨wr.heap.size, 0, none⟩ = some (.int .i64 l.ac) ∧ w''.cell? ⟨wr.heap.size, 1, none⟩ = some (.int .i64 l.ast) ∧ w''.cell? ⟨wr.heap.size, 2, none⟩ = some (.int .i64 l.am)) ∧ (w''.cell? ⟨bx, ox + m * 3, none⟩ = some (.int .i64 o.ac) ∧ w''.cell? ⟨bx, ox + m * 3 + 1, none⟩ = some (.int .i64 o.ast) ∧ w''.cell? ⟨bx, ox + m * 3 + 2, none⟩ = some (.int .i64 o.am)))
          ((refine balKeep2 ?_ g4 g3; repeat (first | exact Below.refl _ _ | assumption | refine Below.drew ?_ | refine balloc ?_ _ | refine bstep ?_ (by assumption))))
          (first | (go_at_call 103; refine (standsBehind_any l o _).mono ?_; rintro e w3 ⟨rfl, hb3⟩))
        rename_i hH
        have hB3 := bstep hB hH.1
        clear hH
        cases hbe : behind l o
        · go_wp2
          go_ret
          refine ⟨?_, hB3⟩
          have hb0 : balAt xs (m + 1) = 1 := by rw [balAt_next hok2, ← HL.out, ← HO.out, if_pos hbe]
          rw [balFault_hit (k := m + 1) (c := 1) (by rw [HN.out]; omega) (by rw [HN.out]; exact hlt) HS.out hb0 (by omega)]
          rfl
        · go_wp2
          refine ⟨⟨m + 1 + 1, by omega, by go_num, scanI_succ HS.out ?_, hB3⟩, by simp [intOf]; omega⟩
          rw [balAt_next hok2, ← HL.out, ← HO.out, if_neg (by rw [hbe]; simp)]
    · go_wp2
      go_ret
      have hkn : k = n := by omega
      subst hkn
      refine ⟨?_, hbl⟩
      rw [balFault, if_neg (by rw [HN.out]; omega), HN.out, HS.out]
      rfl
end Go.Proofs.YtndghenlapbaaaaGreatDoor

