import Derived.Test.YtgjpafalompecaaPrnSettlesLaw5
import Derived.Test.YtgjpafalompecaaPrnSettlesLaw4
import Derived.Test.YtgjpafalompecaaPrnSettlesLaw1
import Derived.RegionTactic
import Derived.ChangeAlike
import Derived.BigRegion
import Derived.Carry
import Derived.Deep.RegionHeld3
import Derived.Deep.DrawnRows

/-
  slices.SortFunc over keys of a book.
-/
namespace Go.Proofs.Ytgjpafalompecaa
open Go.RowKit Go.Sort Go.Shelf
set_option linter.unusedSectionVars false
variable [DecidableEq Rw] [Inhabited Rw] [DecidableEq Bal] [Inhabited Bal] [DecidableEq Ledg] [Inhabited Ledg] [DecidableEq Leg] [Inhabited Leg]
set_option linter.unusedVariables false
set_option linter.unusedSimpArgs false

theorem get_keysC (xs : List K3) : ∀ i c, i < xs.length → c < 3 → (keysC xs)[i * 3 + c]? = (keyC (xs.getD i default))[c]? := by
  induction xs with
  | nil => intro i c h; simp at h
  | cons x xs ih =>
    intro i c hi hc
    have e : keysC (x :: xs) = keyC x ++ keysC xs := by simp [keysC]
    have l3 : (keyC x).length = 3 := rfl
    rw [e]
    cases i with
    | zero =>
      rw [List.getElem?_append_left (by omega)]
      simp
    | succ i =>
      rw [List.getElem?_append_right (by omega), l3, show (i + 1) * 3 + c - 3 = i * 3 + c by omega, ih i c (by simpa using hi) hc]
      simp
theorem holds_keys {w : World} {base g cap : Nat} {xs : List K3} (h : w.ownsRow base 64 3 (.slice (some ⟨g, 0, none⟩) xs.length cap) xs.length (keysC xs)) : HoldsK keyC 3 w g 0 xs.toArray := by
  intro j hj
  simp only [size_flatK, List.size_toArray] at hj
  have hd : j / 3 < xs.length := by omega
  have hm : j % 3 < 3 := by omega
  refine ⟨?_, h.frozenAt _⟩
  rw [Nat.zero_add, h.cellAt j hj, get_flatK keyC 3 xs.toArray j (by simpa using hj)]
  have e := get_keysC xs (j / 3) (j % 3) hd hm
  rw [show j / 3 * 3 + j % 3 = j by omega] at e
  rw [e]
  have e2 : xs.toArray[j / 3]! = xs.getD (j / 3) default := by simp [List.getD, hd]
  rw [e2]
  generalize xs.getD (j / 3) default = x
  have : j % 3 = 0 ∨ j % 3 = 1 ∨ j % 3 = 2 := by omega
  rcases this with h | h | h <;> rw [h] <;> rfl
theorem sortWorld_below (w : World) (base g m : Nat) (d : Array K3) (os : Array Obj) (hg : base ≤ g) (hb : base ≤ w.heap.size) : Go.RowKit.Below base w (sortWorldK keyC 3 w g 0 m d os) := by
  refine ⟨rfl, rfl, rfl, ?_, fun i hi => ?_⟩
  · simp [sortWorldK, grow, putRowK, putRow, mapBlock, Sort.ahead]
  · simp only [sortWorldK, grow, putRowK, putRow, mapBlock, Sort.ahead]
    rw [Array.getElem?_append_left (by simp; omega), Array.getElem?_modify]
    rw [if_neg (by omega)]
set_option maxHeartbeats 1000000 in
theorem sortK_any (ρ : Ren) (L : SlLaysF0.n6 Try.prog ρ) (hf : ρ.f 6 = 65) (ht : ρ.t 24 = 64) (xs : List K3) (g cap base : Nat) (W : World) (ho : W.ownsRow base 64 3 (.slice (some ⟨g, 0, none⟩) xs.length cap) xs.length (keysC xs)) (hbs : base ≤ W.heap.size) (hn : xs.length ≤ 200) :
    Calls Try.prog 65 #[.slice (some ⟨g, 0, none⟩) xs.length cap, .func (.func 47) #[] #[]] W fun e w' => e = .returned (.tuple #[]) ∧ ∃ ys : List K3, ys.Perm xs ∧ ys.Pairwise (fun p q => ltOf cfK q p = false) ∧ (∀ i, i < ys.length → keyCells w' g (i * 3) (ys.getD i default)) ∧ Go.RowKit.Below base W w' := by
  have eg : ∀ args w, (callFunc 47 args).run Try.prog w = .ok (.enter 47 args) w := enters_of Try.func47 (by kernel_rfl) rfl
  have aE : ∀ w, (isAgg (ρ.t 24)).run Try.prog w = .ok true w := fun w => by rw [ht]; exact Try.isAgg64 w
  have zE : ∀ w, (Go.sizeOf (ρ.t 24)).run Try.prog w = .ok 3 w := fun w => by rw [ht]; exact Try.sizeOf64 w
  have hH := holds_keys ho
  have hg := ho.lt g rfl
  have hcon := AnyQ.slices_SortFunc L 3 aE zE keyC (fun _ => rfl) keyC_one cfK swoK 47 #[] g 0 cap xs.toArray W eg (cmpLaysK g 0 _ W) hH hg.2 (by simp; omega)
  rw [hf] at hcon
  simp only [List.size_toArray] at hcon
  refine hcon.mono ?_
  rintro e w' ⟨rfl, d', n, os, hp, hs, rfl⟩
  obtain ⟨hsz, _, hperm⟩ := hp
  simp only [List.size_toArray] at hsz hperm
  have hP : d'.toList.Perm xs := by
    have e1 : d'.extract 0 xs.length = d' := by rw [← hsz]; simp
    have e2 : xs.toArray.extract 0 xs.length = xs.toArray := by simp
    rw [e1, e2] at hperm
    exact hperm
  have hHo : HoldsK keyC 3 (sortWorldK keyC 3 W g 0 n d' os) g 0 d' := holdsK_grow (enc := keyC) (k := 3) _ os g 0 d' (by simp [putRowK, putRow, mapBlock, Sort.ahead]; exact hg.2) (holdsK_putRowK (enc := keyC) (k := 3) (Sort.ahead W n) g 0 xs.toArray d' (holdsK_ahead (enc := keyC) (k := 3) W n g 0 _ hH) (by simp [hsz]))
  refine ⟨rfl, d'.toList, hP, ?_, fun i hi => ?_, sortWorld_below W base g n d' os hg.1 hbs⟩
  · rw [List.pairwise_iff_getElem]
    intro i j hi hj hij
    simp only [Array.length_toList] at hi hj
    have := hs i j (Nat.zero_le _) hij (by omega)
    simpa [hi, hj] using this
  · simp only [Array.length_toList] at hi
    have e : d'.toList.getD i default = d'[i]! := by simp [List.getD, hi]
    rw [e]
    have c0 := (hHo.cell hi (c := 0) (by omega)).1
    have c1 := (hHo.cell hi (c := 1) (by omega)).1
    have c2 := (hHo.cell hi (c := 2) (by omega)).1
    simp only [Nat.zero_add, Nat.add_zero] at c0 c1 c2
    generalize d'[i]! = x at *
    exact ⟨c0, c1, c2⟩
end Go.Proofs.Ytgjpafalompecaa

/-
  Chapter 2 in plain mathematics: what a book of a ledger holds.
-/
namespace Go.Proofs.Ytgjpafalompecaa
open Go.RowKit
set_option linter.unusedSectionVars false
variable [DecidableEq Bal] [Inhabited Bal] [DecidableEq Ledg] [Inhabited Ledg] [DecidableEq Leg] [Inhabited Leg]

def getB (a t : Int) : List Bal → Option Int
  | [] => none
  | x :: r => if x.ac = a ∧ x.ast = t then some x.am else getB a t r
theorem hasB_get (a t : Int) : ∀ xs : List Bal, hasB a t xs = (getB a t xs).getD 0
  | [] => rfl
  | x :: r => by
    simp only [hasB, getB]
    split
    · rfl
    · exact hasB_get a t r
theorem getB_append (a t : Int) : ∀ (l r : List Bal), getB a t (l ++ r) = (getB a t l).or (getB a t r)
  | [], r => by simp [getB]
  | x :: l, r => by
    simp only [List.cons_append, getB]
    split
    · simp
    · exact getB_append a t l r
theorem getB_none {a t : Int} : ∀ {xs : List Bal}, (∀ k, k < xs.length → ¬ ((xs.getD k default).ac = a ∧ (xs.getD k default).ast = t)) → getB a t xs = none
  | [], _ => rfl
  | x :: r, h => by
    have h0 := h 0 (by simp)
    simp only [List.getD_cons_zero] at h0
    simp only [getB, if_neg h0]
    exact getB_none (fun k hk => by have := h (k + 1) (by simpa using hk); simpa only [List.getD_cons_succ] using this)
theorem take_bal (xs : List Bal) (k : Nat) (h : k < xs.length) : xs.take (k + 1) = xs.take k ++ [xs.getD k default] := by
  rw [List.take_add_one]; simp [List.getD, h]
theorem rising {xs : List Bal} (h : BalsOk xs) {i : Nat} : ∀ {j : Nat}, i < j → j < xs.length → (xs.getD i default).ac * 3 + (xs.getD i default).ast < (xs.getD j default).ac * 3 + (xs.getD j default).ast
  | 0, hij, _ => by omega
  | j + 1, hij, hj => by
    have h1 := h.ord j hj
    have hb := behind_iff (b := xs.getD (j + 1) default) (a := xs.getD j default) (balOk_key (h.ok _ hj)) (balOk_key (h.ok _ (by omega)))
    have h2 : (xs.getD j default).ac * 3 + (xs.getD j default).ast < (xs.getD (j + 1) default).ac * 3 + (xs.getD (j + 1) default).ast := by
      refine Int.not_le.1 (fun h => ?_)
      rw [hb.2 h] at h1; cases h1
    by_cases e : i = j
    · subst e; exact h2
    · have := rising h (i := i) (j := j) (by omega) (by omega)
      omega
theorem getD_takeB {xs : List Bal} {k j : Nat} (h : j < k) : (xs.take k).getD j default = xs.getD j default := by
  simp [List.getD, h]
theorem getB_fresh {xs : List Bal} (h : BalsOk xs) {j : Nat} (hj : j < xs.length) : getB (xs.getD j default).ac (xs.getD j default).ast (xs.take j) = none := by
  apply getB_none
  intro k hk
  have hk' : k < j := by rw [List.length_take] at hk; omega
  rw [getD_takeB hk']
  have := rising h hk' hj
  rintro ⟨e1, e2⟩
  rw [e1, e2] at this
  omega
def bookP (g : List (List Bal)) (i j : Nat) (s a t : Int) : Option Int := if 0 ≤ s ∧ s < i then getB a t (g.getD s.toNat default) else if s = i then getB a t ((g.getD i default).take j) else none
def bookF (g : List (List Bal)) (s a t : Int) : Option Int := if 0 ≤ s ∧ s < g.length then getB a t (g.getD s.toNat default) else none
theorem bookP_start (g : List (List Bal)) (s a t : Int) : bookP g 0 0 s a t = none := by
  unfold bookP
  rw [if_neg (by omega)]
  split
  · rfl
  · rfl
theorem bookP_step {g : List (List Bal)} {i j : Nat} (h : BalsOk (g.getD i default)) (hj : j < (g.getD i default).length) (s a t : Int) :
    bookP g i (j + 1) s a t = upd3 (bookP g i j) i ((g.getD i default).getD j default).ac ((g.getD i default).getD j default).ast (some ((g.getD i default).getD j default).am) s a t := by
  have hf := getB_fresh h hj
  unfold upd3 bookP
  rw [take_bal _ _ hj, getB_append]
  by_cases hs : 0 ≤ s ∧ s < (i : Int)
  · rw [if_pos hs, if_neg (by rintro ⟨rfl, _⟩; omega), if_pos hs]
  · rw [if_neg hs, if_neg hs]
    by_cases e : s = i
    · rw [if_pos e, if_pos e]
      by_cases e2 : a = ((g.getD i default).getD j default).ac ∧ t = ((g.getD i default).getD j default).ast
      · rw [if_pos ⟨e, e2.1, e2.2⟩, e2.1, e2.2, hf]
        simp [getB]
      · rw [if_neg (fun h => e2 h.2)]
        simp only [getB]
        rw [if_neg (fun h => e2 ⟨h.1.symm, h.2.symm⟩)]
        simp
    · rw [if_neg e, if_neg e, if_neg (fun h => e h.1)]
theorem bookP_next (g : List (List Bal)) (i : Nat) (s a t : Int) : bookP g (i + 1) 0 s a t = bookP g i (g.getD i default).length s a t := by
  unfold bookP
  rw [List.take_length]
  by_cases e : s = i
  · subst e
    rw [if_pos (by omega), if_neg (by omega), if_pos rfl]
    simp
  · by_cases hs : 0 ≤ s ∧ s < (i : Int)
    · rw [if_pos (by omega), if_pos hs]
    · rw [if_neg (by omega), if_neg hs, if_neg e]
      split
      · rfl
      · rfl
theorem bookP_end (g : List (List Bal)) (s a t : Int) : bookF g s a t = bookP g g.length 0 s a t := by
  unfold bookP bookF
  split
  · rfl
  · split
    · rfl
    · rfl
theorem balVal_get (g : Ledg) (s a t : Int) (h0 : ledFault g = 0) (h : (inB s 0 (g.shards.length - 1) && keyOk a t) = true) : balVal g s a t = (bookF g.shards s a t).getD 0 := by
  rw [balVal, if_pos ⟨h0, h⟩, hasB_get]
  rw [Bool.and_eq_true] at h
  have := inBi.1 h.1
  rw [bookF, if_pos (by omega)]
end Go.Proofs.Ytgjpafalompecaa

/-
  Cells that are kept. (Written by program: lawgen.py.)
-/
namespace Go.Proofs.Ytgjpafalompecaa
open Go.RowKit
theorem keepN3 {w w' : World} {a0 : Addr} {x0 : Value} {a1 : Addr} {x1 : Value} {a2 : Addr} {x2 : Value} (hb : Below w.heap.size w w') (g0 : w.cell? a0 = some x0) (g1 : w.cell? a1 = some x1) (g2 : w.cell? a2 = some x2) : Below w.heap.size w w' ∧ w'.cell? a0 = some x0 ∧ w'.cell? a1 = some x1 ∧ w'.cell? a2 = some x2 :=
  ⟨hb, cell_keep hb g0, cell_keep hb g1, cell_keep hb g2⟩
theorem keepN4 {w w' : World} {a0 : Addr} {x0 : Value} {a1 : Addr} {x1 : Value} {a2 : Addr} {x2 : Value} {a3 : Addr} {x3 : Value} (hb : Below w.heap.size w w') (g0 : w.cell? a0 = some x0) (g1 : w.cell? a1 = some x1) (g2 : w.cell? a2 = some x2) (g3 : w.cell? a3 = some x3) : Below w.heap.size w w' ∧ w'.cell? a0 = some x0 ∧ w'.cell? a1 = some x1 ∧ w'.cell? a2 = some x2 ∧ w'.cell? a3 = some x3 :=
  ⟨hb, cell_keep hb g0, cell_keep hb g1, cell_keep hb g2, cell_keep hb g3⟩
theorem keepS1 {w W W' : World} {a1 : Addr} {v1 : Value} (h : Below w.heap.size w W ∧ W.cell? a1 = some v1) (hb : Below W.heap.size W W') : Below w.heap.size w W' ∧ W'.cell? a1 = some v1 :=
  ⟨bstep h.1 hb, cell_keep hb (h.2)⟩
theorem keepS4 {w W W' : World} {a1 a2 a3 a4 : Addr} {v1 v2 v3 v4 : Value} (h : Below w.heap.size w W ∧ W.cell? a1 = some v1 ∧ W.cell? a2 = some v2 ∧ W.cell? a3 = some v3 ∧ W.cell? a4 = some v4) (hb : Below W.heap.size W W') : Below w.heap.size w W' ∧ W'.cell? a1 = some v1 ∧ W'.cell? a2 = some v2 ∧ W'.cell? a3 = some v3 ∧ W'.cell? a4 = some v4 :=
  ⟨bstep h.1 hb, cell_keep hb (h.2.1), cell_keep hb (h.2.2.1), cell_keep hb (h.2.2.2.1), cell_keep hb (h.2.2.2.2)⟩
theorem keepS4g {w W W' : World} {a1 a2 a3 a4 : Addr} {v1 v2 v3 v4 : Value} {b : Nat} (h : Below w.heap.size w W ∧ W.cell? a1 = some v1 ∧ W.cell? a2 = some v2 ∧ W.cell? a3 = some v3 ∧ W.cell? a4 = some v4) (hg : W.grownBy W' (some b)) (hl : w.heap.size ≤ b) (n1 : some a1.block ≠ some b) (n2 : some a2.block ≠ some b) (n3 : some a3.block ≠ some b) (n4 : some a4.block ≠ some b) : Below w.heap.size w W' ∧ W'.cell? a1 = some v1 ∧ W'.cell? a2 = some v2 ∧ W'.cell? a3 = some v3 ∧ W'.cell? a4 = some v4 :=
  ⟨h.1.grown hg h.1.size (fun k e => by cases e; exact hl), hg.cell (h.2.1) n1, hg.cell (h.2.2.1) n2, hg.cell (h.2.2.2.1) n3, hg.cell (h.2.2.2.2) n4⟩
theorem keepS5 {w W W' : World} {a1 a2 a3 a4 a5 : Addr} {v1 v2 v3 v4 v5 : Value} (h : Below w.heap.size w W ∧ W.cell? a1 = some v1 ∧ W.cell? a2 = some v2 ∧ W.cell? a3 = some v3 ∧ W.cell? a4 = some v4 ∧ W.cell? a5 = some v5) (hb : Below W.heap.size W W') : Below w.heap.size w W' ∧ W'.cell? a1 = some v1 ∧ W'.cell? a2 = some v2 ∧ W'.cell? a3 = some v3 ∧ W'.cell? a4 = some v4 ∧ W'.cell? a5 = some v5 :=
  ⟨bstep h.1 hb, cell_keep hb (h.2.1), cell_keep hb (h.2.2.1), cell_keep hb (h.2.2.2.1), cell_keep hb (h.2.2.2.2.1), cell_keep hb (h.2.2.2.2.2)⟩
end Go.Proofs.Ytgjpafalompecaa

/-
  The program's book of a ledger: made, asked.
-/
namespace Go.Proofs.Ytgjpafalompecaa
open Go.RowKit
set_option linter.unusedSectionVars false
variable [DecidableEq Bal] [Inhabited Bal] [DecidableEq Ledg] [Inhabited Ledg] [DecidableEq Leg] [Inhabited Leg]
attribute [local go_sem ↓] Go.wp_at_zero Go.wp_at_succ

theorem keyOf_any (s a t : Int) (w : World) : Calls Try.prog 29 #[.int .i64 s, .int .i64 a, .int .i64 t] w fun e w' => e = .returned (kv s a t) ∧ Below w.heap.size w w' := by
  go_enter Try.func29, Try.ntmps29
  go_wp2
  refine bodyPost_ret (v := .agg #[.int .i64 s, .int .i64 a, .int .i64 t]) (by simp [results, Try.results29, go_sem]) rfl ⟨rfl, by (repeat (first | exact Below.refl _ _ | assumption | refine Below.drew ?_ | refine balloc ?_ _ | refine bset ?_ (by simp; omega) _ | refine bset ?_ (by simp) _ | refine bstep ?_ (by assumption)))⟩
theorem hasShard_any (n : Nat) (b : Value) (s : Int) (w : World) (hn : n ≤ 3) (hb : ∃ o, b = .map o) : Calls Try.prog 27 #[.agg #[.int .i64 n, b], .int .i64 s] w fun e w' => e = .returned (.bool (inB s 0 (n - 1))) ∧ Below w.heap.size w w' := by
  obtain ⟨o, rfl⟩ := hb
  have v1 : IntKind.i64.wrap ((n : Int) - 1) = n - 1 := wrapId (by omega) (by omega)
  go_enter Try.func27, Try.ntmps27
  go_wp2_with (go_at_call 52; refine (within_any _ _ _ _).mono ?_; rintro e w' ⟨rfl, rfl⟩)
  go_ret
  exact ⟨rfl, by (repeat (first | exact Below.refl _ _ | assumption | refine Below.drew ?_ | refine balloc ?_ _ | refine bset ?_ (by simp; omega) _ | refine bset ?_ (by simp) _ | refine bstep ?_ (by assumption)))⟩
structure BkC (W : World) (B n : Nat) : Prop where
  res : W.heap[B + 1]? = some (.cells #[.int .i64 0, .map none] 56)
  bk : W.heap[B + 1 + 1 + 1]? = some (.cells #[.int .i64 n, .map (some (B + 1 + 1))] 56)
theorem lt_of_get {W : World} {b : Nat} {o : Obj} (h : W.heap[b]? = some o) : b < W.heap.size := by
  rcases Nat.lt_or_ge b W.heap.size with h' | h'
  · exact h'
  · rw [Array.getElem?_eq_none h'] at h; cases h
theorem heap_new {w : World} {o : Obj} {b : Nat} (h : b = w.heap.size) : (w.alloc o).heap[b]? = some o := by rw [h]; exact (MapKept.heap_alloc w o).1
theorem heap_old {w : World} {o : Obj} {b : Nat} (h : b < w.heap.size) : (w.alloc o).heap[b]? = w.heap[b]? := (MapKept.heap_alloc w o).2 b h
theorem BkC.below {W W' : World} {B n : Nat} (h : BkC W B n) (hb : Below W.heap.size W W') : BkC W' B n :=
  ⟨(hb.block _ (lt_of_get h.res)).trans h.res, (hb.block _ (lt_of_get h.bk)).trans h.bk⟩
theorem BkC.grown {W W' : World} {B n : Nat} (h : BkC W B n) (hg : W.grownBy W' (some (B + 1 + 1))) : BkC W' B n :=
  ⟨(hg.block _ (lt_of_get h.res) (by simp)).trans h.res, (hg.block _ (lt_of_get h.bk) (by simp)).trans h.bk⟩
theorem cellOf {W : World} {b t : Nat} {cs : Array Value} (h : W.heap[b]? = some (.cells cs t)) (i : Nat) : W.cell? ⟨b, i, none⟩ = cs[i]? := by
  simp [World.cell?, h]
theorem unfrozen {W : World} {b t : Nat} {cs : Array Value} (h : W.heap[b]? = some (.cells cs t)) (i : Nat) : W.frozen? ⟨b, i, none⟩ = false := by
  simp [World.frozen?, h]
set_option maxHeartbeats 4000000 in
theorem bookOf_any (x : Value) (g : Ledg) (w : World) (hx : ledgR.V w x g) (h0 : ledFault g = 0) :
    Calls Try.prog 19 #[x] w fun e w' => ∃ b, e = .returned (.agg #[.int .i64 g.shards.length, .map (some b)]) ∧ w.heap.size ≤ b ∧ Book w' b 54 (bookF g.shards) ∧ Below w.heap.size w w' := by
  obtain ⟨hl1, hl3, hok⟩ := ledOk_of h0
  obtain ⟨u, rfl, ax, cx, rfl, hcx, hmx, hxx⟩ := hx
  unfold maxLen at hmx
  have HOK : Hid (∀ k, k < g.shards.length → BalsOk (g.shards.getD k default)) := hok
  clear hok h0
  generalize hn' : g.shards.length = n at *
  have HN : Hid (g.shards.length = n) := hn'
  clear hn'
  have hmm := @run_makeMap Try.prog
  go_enter Try.func19, Try.ntmps19
  go_wp2
  go_loopw [16] (fun i w' => ∃ k : Nat, k ≤ n ∧ i = .int .i64 k ∧ Book w' (w.heap.size + 1 + 1) (k * 18) (bookP g.shards k 0) ∧ BkC w' w.heap.size n ∧ Below w.heap.size w w') (fun i _ => n - (intOf i).toNat)
  case atStart =>
    refine ⟨0, Nat.zero_le _, rfl, ?_, ⟨?_, ?_⟩, by (repeat (first | exact Below.refl _ _ | assumption | refine Below.drew ?_ | refine balloc ?_ _ | refine bset ?_ (by simp; omega) _ | refine bset ?_ (by simp) _ | refine bstep ?_ (by assumption)))⟩
    · have h1 := book_made ((w.alloc (Obj.cells #[Value.slice ax n cx] 26)).alloc (Obj.cells #[Value.int IntKind.i64 0, Value.map none] 56))
      simp only [World.size_alloc] at h1
      exact (h1.below (balloc (Below.refl _ _) _)).cast (fun s a t _ => bookP_start _ _ _ _)
    · exact (heap_old (by simp)).trans ((heap_old (by simp)).trans (heap_new (by simp)))
    · exact heap_new (by simp)
  case round =>
    obtain ⟨k, hk, rfl, hB, hC, hbl⟩ := hrel
    by_cases hlt : k < n
    · obtain ⟨bx, ox, u, rfl, _, hc, hu⟩ := hxx k hlt
      have c1 := cell_keep hbl (cells1 hc)
      have hb0 : BalsOk (g.shards.getD k default) := HOK.out k hlt
      have HB0 : Hid (BalsOk (g.shards.getD k default)) := hb0
      clear hc hxx hb0
      obtain ⟨l, hl⟩ : ∃ l, l = g.shards.getD k default := ⟨_, rfl⟩
      rw [← hl] at hu
      have HL : Hid (l = g.shards.getD k default) := hl
      clear hl
      obtain ⟨a', c', rfl, hcc, hmc, hu⟩ := hu
      unfold maxLen at hmc
      have hl18 : l.length ≤ 18 := by rw [HL.out]; exact HB0.out.len
      generalize hm' : l.length = m at *
      have HM : Hid (l.length = m) := hm'
      clear hm'
      go_wp2
      go_loopw [23] (fun i w' => ∃ j : Nat, j ≤ m ∧ i = .int .i64 j ∧ Book w' (w.heap.size + 1 + 1) (k * 18 + j) (bookP g.shards k j) ∧ BkC w' w.heap.size n ∧ Below w.heap.size w w') (fun i _ => m - (intOf i).toNat)
      case atStart => exact ⟨0, Nat.zero_le _, rfl, hB, hC, hbl⟩
      case round =>
        obtain ⟨j, hj, rfl, hB3, hC3, hb3⟩ := hrel
        by_cases hlt3 : j < m
        · obtain ⟨b5, o5, rfl, g1⟩ := hu j hlt3
          obtain ⟨q, hq⟩ : ∃ q, q = l.getD j default := ⟨_, rfl⟩
          rw [← hq] at g1
          have HQ : Hid (q = l.getD j default) := hq
          have hqok : balOk q = true := by rw [hq, HL.out]; exact HB0.out.ok j (by rw [← HL.out, HM.out]; exact hlt3)
          clear hq hu
          obtain ⟨⟨⟨p1, p2⟩, p3, p4⟩, p5, p6⟩ := balOk_iff.1 hqok
          have hw : kwf k q.ac q.ast := ⟨wf_of (by omega) (by omega), wf_of (by omega) (by omega), wf_of (by omega) (by omega)⟩
          have hv : (Lit.int .i64 q.am).wf = true := wf_of (by omega) (by omega)
          obtain ⟨e1, e2, e3⟩ := balCells_below hb3 g1
          have hlx : w.heap.size + 1 + 1 < wr.heap.size := hB3.lt
          have h0 : Below w.heap.size w (wr.alloc (.cells #[.int .i64 q.ac, .int .i64 q.ast, .int .i64 q.am] 80)) ∧ (wr.alloc (.cells #[.int .i64 q.ac, .int .i64 q.ast, .int .i64 q.am] 80)).cell? ⟨w.heap.size + 1 + 1 + 1, 1, none⟩ = some (.map (some (w.heap.size + 1 + 1))) ∧ (wr.alloc (.cells #[.int .i64 q.ac, .int .i64 q.ast, .int .i64 q.am] 80)).cell? ⟨wr.heap.size, 0, none⟩ = some (.int .i64 q.ac) ∧ (wr.alloc (.cells #[.int .i64 q.ac, .int .i64 q.ast, .int .i64 q.am] 80)).cell? ⟨wr.heap.size, 1, none⟩ = some (.int .i64 q.ast) ∧ (wr.alloc (.cells #[.int .i64 q.ac, .int .i64 q.ast, .int .i64 q.am] 80)).cell? ⟨wr.heap.size, 2, none⟩ = some (.int .i64 q.am) :=
            ⟨by (repeat (first | exact Below.refl _ _ | assumption | refine Below.drew ?_ | refine balloc ?_ _ | refine bset ?_ (by simp; omega) _ | refine bset ?_ (by simp) _ | refine bstep ?_ (by assumption))), cell_keep (balloc (Below.refl _ _) _) ((cellOf hC3.bk 1).trans rfl), by simp [go_sem], by simp [go_sem], by simp [go_sem]⟩
          have hBW := hB3.below (balloc (Below.refl _ _) (.cells #[.int .i64 q.ac, .int .i64 q.ast, .int .i64 q.am] 80))
          have hCW := hC3.below (balloc (Below.refl _ _) (.cells #[.int .i64 q.ac, .int .i64 q.ast, .int .i64 q.am] 80))
          have hnm : k * 18 + j < maxLen := by unfold maxLen; omega
          have y1 : some (w.heap.size + 1 + 1 + 1) ≠ some (w.heap.size + 1 + 1) := by simp
          have y2 : some wr.heap.size ≠ some (w.heap.size + 1 + 1) := by simp; omega
          have y3 : w.heap.size ≤ w.heap.size + 1 + 1 := by omega
          go_wp2
          generalize hW : wr.alloc (.cells #[.int .i64 q.ac, .int .i64 q.ast, .int .i64 q.am] 80) = W at *
          clear hW e1 e2 e3 g1 hB3 hC3 hb3 c1
          go_region_held3 (fun w' => Below w.heap.size w w' ∧ w'.cell? ⟨w.heap.size + 1 + 1 + 1, 1, none⟩ = some (.map (some (w.heap.size + 1 + 1))) ∧ w'.cell? ⟨wr.heap.size, 0, none⟩ = some (.int .i64 q.ac) ∧ w'.cell? ⟨wr.heap.size, 1, none⟩ = some (.int .i64 q.ast) ∧ w'.cell? ⟨wr.heap.size, 2, none⟩ = some (.int .i64 q.am))
            ((first | exact keepS4 h0 (Below.drew (Below.refl _ _)) | exact hS3 | exact hS4))
            (first | (go_at_call 29; refine (keyOf_any _ _ _ _).mono ?_; rintro e w3 ⟨rfl, hb5⟩; have hS3 := keepS4 (keepS4 h0 (Below.drew (Below.refl _ _))) hb5; obtain ⟨w4, hrun, hB4, hg4⟩ := ((hBW.below (Below.drew (Below.refl _ _))).below hb5).put hw hv hnm; have hS4 := keepS4g hS3 hg4 y3 y1 y2 y2 y2))
          have hC4 := ((hCW.below (Below.drew (Below.refl _ _))).below hb5).grown hg4
          have hbw := hS4.1
          clear hrun hS3 hS4
          go_wp2
          refine ⟨⟨j + 1, by omega, by go_num, ?_, hC4, hbw⟩, by simp [intOf]; omega⟩
          refine hB4.cast (fun s a t _ => ?_)
          rw [bookP_step HB0.out (by rw [← HL.out, HM.out]; exact hlt3), ← HL.out, ← HQ.out]
        · go_wp2
          have hjm : j = m := by omega
          subst hjm
          refine ⟨⟨k + 1, by omega, by go_num, ?_, hC3, hb3⟩, by simp [intOf]; omega⟩
          refine (hB3.mono (by omega)).cast (fun s a t _ => ?_)
          rw [bookP_next, ← HL.out, HM.out]
    · have hkn : k = n := by omega
      subst hkn
      have d0 := cellOf hC.bk 0
      have d1 := cellOf hC.bk 1
      have r0 := cellOf hC.res 0
      have r1 := cellOf hC.res 1
      have f0 := unfrozen hC.res 0
      have f1 := unfrozen hC.res 1
      simp at d0 d1 r0 r1
      go_wp2
      refine bodyPost_ret (v := .agg #[.int .i64 k, .map (some (w.heap.size + 1 + 1))]) ?_ rfl ⟨w.heap.size + 1 + 1, rfl, by omega, ?_, by (repeat (first | exact Below.refl _ _ | assumption | refine Below.drew ?_ | refine balloc ?_ _ | refine bset ?_ (by simp; omega) _ | refine bset ?_ (by simp) _ | refine bstep ?_ (by assumption)))⟩
      · simp [results, Try.results19, go_sem, r0, r1]
      · refine Book.cast (((hB.turned (Mod.of_set _ _ _) (by simp)).turned (Mod.of_set _ _ _) (by simp)).mono (by omega)) (fun s a t _ => ?_)
        rw [bookP_end, HN.out]
end Go.Proofs.Ytgjpafalompecaa

