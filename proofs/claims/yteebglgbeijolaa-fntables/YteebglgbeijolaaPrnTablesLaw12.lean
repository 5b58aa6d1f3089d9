import Derived.Test.YteebglgbeijolaaPrnTablesLaw11
import Derived.Test.YteebglgbeijolaaPrnTablesLaw6
import Derived.Test.YteebglgbeijolaaPrnTablesLaw8
import Derived.Test.YteebglgbeijolaaPrnTablesLaw7
import Derived.Test.YteebglgbeijolaaPrnTablesLaw9
import Derived.Scope

/-
  slices.Insert of one row, whatever room there is.
-/
namespace Go.Proofs.Yteebglgbeijolaa
open Go.RowKit Go.Shelf
set_option linter.unusedSectionVars false
variable [DecidableEq Rw] [Inhabited Rw] [DecidableEq TabR] [Inhabited TabR]
set_option linter.unusedVariables false
set_option linter.unusedSimpArgs false

theorem rwsC_take (xs : List Rw) (i : Nat) : rwsC (xs.take i) = (rwsC xs).take (i * 4) := by
  induction xs generalizing i with
  | nil => simp [rwsC]
  | cons x xs ih =>
    cases i with
    | zero => simp [rwsC]
    | succ i =>
      have e : rwsC (x :: xs) = rowC x ++ rwsC xs := by simp [rwsC]
      have e2 : rwsC ((x :: xs).take (i + 1)) = rowC x ++ rwsC (xs.take i) := by simp [rwsC]
      have hl : (rowC x).length = 4 := rfl
      rw [e, e2, ih, List.take_append]
      rw [List.take_of_length_le (l := rowC x) (by omega), hl, show (i + 1) * 4 - 4 = i * 4 by omega]
theorem rwsC_drop (xs : List Rw) (i : Nat) : rwsC (xs.drop i) = (rwsC xs).drop (i * 4) := by
  induction xs generalizing i with
  | nil => simp [rwsC]
  | cons x xs ih =>
    cases i with
    | zero => simp [rwsC]
    | succ i =>
      have e : rwsC (x :: xs) = rowC x ++ rwsC xs := by simp [rwsC]
      have e2 : rwsC ((x :: xs).drop (i + 1)) = rwsC (xs.drop i) := by simp [rwsC]
      have hl : (rowC x).length = 4 := rfl
      rw [e, e2, ih, List.drop_append]
      rw [List.drop_of_length_le (l := rowC x) (by omega), hl, show (i + 1) * 4 - 4 = i * 4 by omega, List.nil_append]
def InsR (base : Nat) (v : Value) (ys : List Rw) (w : World) (e : Ending) (w' : World) : Prop :=
  ∃ v', e = .returned v' ∧ w'.ownsRow base 61 4 v' ys.length (rwsC ys) ∧ Mod (fun b => v.ownBlock = some b) w w' ∧ (∀ b, v'.ownBlock = some b → v.ownBlock = some b ∨ (w.heap.size ≤ b ∧ b < w'.heap.size))
theorem insert_any (base : Nat) (v : Value) (i vb : Nat) (xs : List Rw) (r : Rw) (w : World) (hown : w.ownsRow base 61 4 v xs.length (rwsC xs)) (hi : i ≤ xs.length) (hn : xs.length ≤ 1048000) (hbase : base ≤ w.heap.size)
    (hv : w.heap[vb]? = some (.cells (rowC r).toArray 61 (0, 0))) (hvb : v.ownBlock ≠ some vb) :
    Calls Try.prog 146 #[v, .int .i64 i, .slice (some ⟨vb, 0, none⟩) 1 1] w (InsR base v (xs.take i ++ [r] ++ xs.drop i) w) := by
  have hl : (xs.take i ++ [r] ++ xs.drop i).length = xs.length + 1 := by simp only [List.length_append, List.length_take, List.length_drop, List.length_cons, List.length_nil]; omega
  have hcc : rwsC (xs.take i ++ [r] ++ xs.drop i) = (rwsC xs).take (i * 4) ++ rowC r ++ (rwsC xs).drop (i * 4) := by
    rw [rwsC_app, rwsC_app, rwsC_take, rwsC_drop]
    simp [rwsC]
  have hcl : (rwsC xs).length = xs.length * 4 := length_rwsC xs
  unfold InsR
  rw [hl, hcc]
  by_cases hie : i = xs.length
  · subst hie
    refine (insert_end base v xs.length vb (rwsC xs) (rowC r) w hown (by omega) hbase rfl hv (rowC_one r)).mono ?_
    rintro e w' ⟨v', rfl, h1, h2, h3⟩
    refine ⟨v', rfl, ?_, Mod.of_grown h2, fun b hb => ?_⟩
    · rw [List.take_of_length_le (by omega), List.drop_of_length_le (by omega), List.append_nil]
      exact h1
    · rcases h3 with h3 | h3
      · exact .inl (h3 ▸ hb)
      · rw [h3] at hb
        simp only [Option.some.injEq] at hb
        have := (h1.lt b (by rw [h3, hb])).2
        exact .inr ⟨by omega, this⟩
  · rcases hown.2 with ⟨_, h0⟩ | ⟨g, cap, cur, rfl, hbg, hg, hnc, hcm, hcs, htake⟩
    · omega
    · have hne : vb ≠ g := fun e => hvb (by rw [e]; rfl)
      have hgl : g < w.heap.size := (Array.getElem?_eq_some_iff.1 hg).1
      by_cases hroom : xs.length + 1 ≤ cap
      · refine (insert_shift g xs.length cap i vb (rwsC xs) (rowC r) cur w hg (by omega) hroom (by unfold maxLen at hcm; omega) hne hcs hcl htake rfl hv (rwsC_oneC xs) (rowC_one r)).mono ?_
        rintro e w' ⟨rfl, cur', h1, h2, h3, h4⟩
        refine ⟨_, rfl, ⟨?_, .inr ⟨g, cap, cur', rfl, hbg, h1, hroom, hcm, h2, h3⟩⟩, h4.mono (fun b h => by rw [h]; rfl), fun b hb => .inl hb⟩
        rw [← hcc, length_rwsC, hl]
      · refine (insert_grow g xs.length cap i vb (rwsC xs) (rowC r) w (by omega) hnc (by omega) (by omega) hcl (fun j v hj => ?_) rfl hv (rwsC_oneC xs) (rowC_one r)).mono ?_
        · refine cell_row hg ?_
          rw [← htake, List.getElem?_take] at hj
          split at hj
          · exact hj
          · cases hj
        · rintro e w' ⟨G, rfl, cur', h1, h2, h3, h4, h5, h6⟩
          have hlt := (Array.getElem?_eq_some_iff.1 h1).1
          refine ⟨_, rfl, ⟨?_, .inr ⟨w.heap.size, G, cur', rfl, hbase, h1, h2, h3, h4, h5⟩⟩, h6.mono (fun b h => h.elim), fun b hb => ?_⟩
          · rw [← hcc, length_rwsC, hl]
          · simp only [Value.ownBlock, Option.some.injEq] at hb
            exact .inr ⟨by omega, by omega⟩
end Go.Proofs.Yteebglgbeijolaa

/-
  slices.BinarySearchFunc over the rows of a table.
-/
namespace Go.Proofs.Yteebglgbeijolaa
open Go.RowKit
set_option linter.unusedSectionVars false
variable [DecidableEq Rw] [Inhabited Rw]
set_option linter.unusedVariables false
set_option linter.unusedSimpArgs false
attribute [local go_sem ↓] Go.wp_at_zero Go.wp_at_succ

theorem bsfKeep {w w' : World} {b o b' o' : Nat} {x y : Rw} (hb : Below w.heap.size w w') (h : rowCells w b o x) (h' : rowCells w b' o' y) :
    Below w.heap.size w w' ∧ (w'.cell? ⟨b, o, none⟩ = some (.string x.key) ∧ w'.cell? ⟨b, o + 1, none⟩ = some (.int .i64 x.ver) ∧ w'.cell? ⟨b, o + 2, none⟩ = some (.string x.val) ∧ w'.cell? ⟨b, o + 3, none⟩ = some (.bool x.gone)) ∧ (w'.cell? ⟨b', o', none⟩ = some (.string y.key) ∧ w'.cell? ⟨b', o' + 1, none⟩ = some (.int .i64 y.ver) ∧ w'.cell? ⟨b', o' + 2, none⟩ = some (.string y.val) ∧ w'.cell? ⟨b', o' + 3, none⟩ = some (.bool y.gone)) := rowKeep2 hb h h'
set_option maxRecDepth 20000 in
set_option maxHeartbeats 4000000 in
theorem bsf_any (x : Value) (xs : List Rw) (q : Rw) (w : World) (hx : RowsV w x xs) (hn : xs.length ≤ 1048576)
    (hmono : ∀ a b, a ≤ b → b < xs.length → cmpR (xs.getD b default) q < 0 → cmpR (xs.getD a default) q < 0) :
    Calls Try.prog 145 #[x, rowV q, cmpF] w fun e w' => ∃ i : Nat, i ≤ xs.length ∧ e = .returned (.tuple #[.int .i64 i, .bool (decide (i < xs.length ∧ cmpR (xs.getD i default) q = 0))]) ∧
      (∀ k, k < i → cmpR (xs.getD k default) q < 0) ∧ (∀ k, i ≤ k → k < xs.length → 0 ≤ cmpR (xs.getD k default) q) ∧ Below w.heap.size w w' := by
  obtain ⟨ax, cx, rfl, hcx, hmx, hx⟩ := hx
  unfold maxLen at hmx
  have HMO : Hid (∀ a b, a ≤ b → b < xs.length → cmpR (xs.getD b default) q < 0 → cmpR (xs.getD a default) q < 0) := hmono
  clear hmono
  generalize hN : xs.length = n at *
  clear hN
  have eg := enters_of Try.func77 (by kernel_rfl) rfl
  unfold rowV cmpF
  go_enter Try.func145, Try.ntmps145
  go_wp2
  go_loopw [9, 10] (fun a b W => ∃ i j : Nat, i ≤ j ∧ j ≤ n ∧ a = .int .i64 i ∧ b = .int .i64 j ∧ Hid (∀ k, k < i → cmpR (xs.getD k default) q < 0) ∧ Hid (∀ k, j ≤ k → k < n → 0 ≤ cmpR (xs.getD k default) q) ∧ rowCells W w.heap.size 0 q ∧ Below w.heap.size w W) (fun a b _ => (intOf b).toNat - (intOf a).toNat)
  case atStart => exact ⟨0, n, Nat.zero_le _, Nat.le_refl _, rfl, rfl, fun k h => absurd h (Nat.not_lt_zero _), fun k h1 h2 => by omega, by unfold rowCells; simp [go_sem], balloc (Below.refl _ _) _⟩
  case round =>
    obtain ⟨i, j, hij, hjn, rfl, rfl, HA, HB, hq, hbl⟩ := hrel
    by_cases hlt : i < j
    · have hlt' : (i : Int) < j := by omega
      go_wp2
      obtain ⟨m, hm⟩ : ∃ m : Nat, ((i : Int) + j) / 2 = (m : Int) := ⟨(i + j) / 2, by omega⟩
      have hm1 : i ≤ m := by omega
      have hm2 : m < j := by omega
      rw [hm]
      clear hm
      obtain ⟨b, o, rfl, hc⟩ := hx m (by omega)
      obtain ⟨l, hl⟩ : ∃ l, l = xs.getD m default := ⟨_, rfl⟩
      rw [← hl] at hc
      have HL : Hid (l = xs.getD m default) := hl
      clear hl hx
      have r1 := rowCells_below hbl hc
      have hi4 : (0 : Int) ≤ m := by omega
      have hi5 : (m : Int) < n := by omega
      go_region_held3 (fun W => Below wr.heap.size wr W ∧ (W.cell? ⟨b, o + m * 4, none⟩ = some (.string l.key) ∧ W.cell? ⟨b, o + m * 4 + 1, none⟩ = some (.int .i64 l.ver) ∧ W.cell? ⟨b, o + m * 4 + 2, none⟩ = some (.string l.val) ∧ W.cell? ⟨b, o + m * 4 + 3, none⟩ = some (.bool l.gone)) ∧ (W.cell? ⟨w.heap.size, 0, none⟩ = some (.string q.key) ∧ W.cell? ⟨w.heap.size, 0 + 1, none⟩ = some (.int .i64 q.ver) ∧ W.cell? ⟨w.heap.size, 0 + 2, none⟩ = some (.string q.val) ∧ W.cell? ⟨w.heap.size, 0 + 3, none⟩ = some (.bool q.gone))) ((refine bsfKeep ?_ r1 hq; repeat (first | exact Below.refl _ _ | assumption | refine Below.drew ?_ | refine balloc ?_ _ | refine bstep ?_ (by assumption))))
        (first | (go_at_call 77; refine (compareRows_any l q _).mono ?_; rintro e wa ⟨rfl, hb1⟩))
      rename_i hH
      have hB := bstep hbl hH.1
      have hq2 : rowCells wa w.heap.size 0 q := rowCells_below hH.1 hq
      clear hH
      by_cases hneg : cmpR l q < 0
      · have hd : decide (cmpR l q < 0) = true := decide_eq_true hneg
        have HA2 : Hid (∀ k, k < m + 1 → cmpR (xs.getD k default) q < 0) := fun k hk => HMO.out k m (by omega) (by omega) (by rw [← HL.out]; exact hneg)
        go_wp2
        refine ⟨⟨m + 1, j, by omega, hjn, by go_num, rfl, HA2, HB, hq2, hB⟩, ?_⟩
        simp [intOf]
        omega
      · have hd : decide (cmpR l q < 0) = false := decide_eq_false hneg
        have HB2 : Hid (∀ k, m ≤ k → k < n → 0 ≤ cmpR (xs.getD k default) q) := fun k hk hkn => by
          by_cases h : cmpR (xs.getD k default) q < 0
          · have := HMO.out m k hk hkn h
            rw [← HL.out] at this
            exact absurd this hneg
          · omega
        go_wp2
        refine ⟨⟨i, m, hm1, by omega, rfl, rfl, HA, HB2, hq2, hB⟩, ?_⟩
        simp [intOf]
        omega
    · obtain rfl : i = j := by omega
      have hi4 : (0 : Int) ≤ i := by omega
      have hnl : ¬ (i : Int) < i := by omega
      by_cases hin : i < n
      · obtain ⟨b, o, rfl, hc⟩ := hx i hin
        obtain ⟨l, hl⟩ : ∃ l, l = xs.getD i default := ⟨_, rfl⟩
        rw [← hl] at hc
        have HL : Hid (l = xs.getD i default) := hl
        clear hl hx
        have r1 := rowCells_below hbl hc
        have hi5 : (i : Int) < n := by omega
        have hi6 : decide (i < n) = true := decide_eq_true hin
        go_wp2
        go_region_held3 (fun W => Below wr.heap.size wr W ∧ (W.cell? ⟨b, o + i * 4, none⟩ = some (.string l.key) ∧ W.cell? ⟨b, o + i * 4 + 1, none⟩ = some (.int .i64 l.ver) ∧ W.cell? ⟨b, o + i * 4 + 2, none⟩ = some (.string l.val) ∧ W.cell? ⟨b, o + i * 4 + 3, none⟩ = some (.bool l.gone)) ∧ (W.cell? ⟨w.heap.size, 0, none⟩ = some (.string q.key) ∧ W.cell? ⟨w.heap.size, 0 + 1, none⟩ = some (.int .i64 q.ver) ∧ W.cell? ⟨w.heap.size, 0 + 2, none⟩ = some (.string q.val) ∧ W.cell? ⟨w.heap.size, 0 + 3, none⟩ = some (.bool q.gone))) ((refine bsfKeep ?_ r1 hq; repeat (first | exact Below.refl _ _ | assumption | refine Below.drew ?_ | refine balloc ?_ _ | refine bstep ?_ (by assumption))))
          (first | (go_at_call 77; refine (compareRows_any l q _).mono ?_; rintro e wa ⟨rfl, hb1⟩))
        rename_i hH
        have hB := bstep hbl hH.1
        clear hH
        go_wp2
        refine bodyPost_ret (v := .tuple #[.int .i64 i, .bool (cmpR l q == 0)]) (by simp [results, Try.results145, go_sem]) rfl ?_
        refine ⟨i, hjn, ?_, HA.out, HB.out, hB⟩
        rw [← HL.out]
        have e : (cmpR l q == 0) = decide (i < n ∧ cmpR l q = 0) := by
          rw [Bool.eq_iff_iff]
          simp [hin]
        rw [e]
      · have hi5 : ¬ (i : Int) < n := by omega
        have hi6 : decide (i < n) = false := decide_eq_false hin
        go_wp2
        go_quiet (fail)
        go_wp2
        refine bodyPost_ret (v := .tuple #[.int .i64 i, .bool false]) (by simp [results, Try.results145, go_sem]) rfl ?_
        refine ⟨i, hjn, ?_, HA.out, HB.out, bdrN hbl _⟩
        simp [hin]
end Go.Proofs.Yteebglgbeijolaa

/-
  sortedList.add: a row put where it belongs.
-/
namespace Go.Proofs.Yteebglgbeijolaa
open Go.RowKit Go.Shelf
set_option linter.unusedSectionVars false
variable [DecidableEq Rw] [Inhabited Rw] [DecidableEq TabR] [Inhabited TabR]
set_option linter.unusedVariables false
set_option linter.unusedSimpArgs false
attribute [local go_sem ↓] Go.wp_at_zero Go.wp_at_succ

theorem addKeep {w w' : World} {b b' : Nat} {u v : Value} {x : Rw} (hb : Below w.heap.size w w') (h0 : w.cell? ⟨b, 0, none⟩ = some u) (h1 : w.cell? ⟨b, 1, none⟩ = some v) (h : rowCells w b' 0 x) :
    Below w.heap.size w w' ∧ w'.cell? ⟨b, 0, none⟩ = some u ∧ w'.cell? ⟨b, 1, none⟩ = some v ∧ (w'.cell? ⟨b', 0, none⟩ = some (.string x.key) ∧ w'.cell? ⟨b', 0 + 1, none⟩ = some (.int .i64 x.ver) ∧ w'.cell? ⟨b', 0 + 2, none⟩ = some (.string x.val) ∧ w'.cell? ⟨b', 0 + 3, none⟩ = some (.bool x.gone)) := ⟨hb, cell_keep hb h0, cell_keep hb h1, rowCells_below hb h⟩
structure LstB (w : World) (base B : Nat) (v : Value) (ys : List Rw) : Prop where
  c0 : w.cell? ⟨B, 0, none⟩ = some v
  c1 : w.cell? ⟨B, 1, none⟩ = some cmpF
  fr : w.frozen? ⟨B, 0, none⟩ = false
  own : w.ownsRow base 61 4 v ys.length (rwsC ys)
  ne : v.ownBlock ≠ some B
  ri : Rises ys
set_option maxRecDepth 100000 in
set_option maxHeartbeats 8000000 in
theorem add_any (B : Nat) (v : Value) (ys : List Rw) (r : Rw) (base : Nat) (w : World) (hl : LstB w base B v ys) (hn : ys.length ≤ 1048000) (hbase : base ≤ w.heap.size) :
    Calls Try.prog 114 #[.pointer (some ⟨B, 0, none⟩), rowV r] w fun e w' => (∃ u, e = .returned u) ∧ ∃ v', LstB w' base B v' (putL ys r) ∧
      Mod (fun b => b = B ∨ v.ownBlock = some b) w w' ∧ (∀ b, v'.ownBlock = some b → v.ownBlock = some b ∨ (w.heap.size ≤ b ∧ b < w'.heap.size)) := by
  obtain ⟨h0, h1, hf, hown, hne, hri⟩ := hl
  have HRI : Hid (Rises ys) := hri
  have hVx : RowsV w v ys := RowsV_of_owns hown
  obtain ⟨a0, c0, rfl⟩ := owns_form hown
  generalize hN : ys.length = n at *
  have HN : Hid (ys.length = n) := hN
  clear hN hri
  have zB := World.block_lt_of_cell? _ _ h0
  dsimp only at zB
  unfold rowV
  unfold cmpF at h1
  go_enter Try.func114, Try.ntmps114
  go_wp2
  obtain ⟨w1, hw1⟩ : ∃ w1, w1 = w.alloc (.cells #[.string r.key, .int .i64 r.ver, .string r.val, .bool r.gone] 61) := ⟨_, rfl⟩
  rw [← hw1]
  have hb1 : Below w.heap.size w w1 := by rw [hw1]; exact balloc (Below.refl _ _) _
  have q0 := cell_keep hb1 h0
  have q1 := cell_keep hb1 h1
  have qr : rowCells w1 w.heap.size 0 r := by rw [hw1]; unfold rowCells; simp [go_sem]
  clear hw1
  have hC : ∀ W, Below w1.heap.size w1 W → Calls Try.prog 145 #[.slice a0 n c0, .agg #[.string r.key, .int .i64 r.ver, .string r.val, .bool r.gone], .func (.func 77) #[] #[]] W fun e w' =>
      ∃ (i : Nat) (f : Bool), e = .returned (.tuple #[.int .i64 i, .bool f]) ∧ Hid (i ≤ n ∧ PutAt ys r i ∧ (f = true → putL ys r = ys) ∧ (f = false → putL ys r = ys.take i ++ [r] ++ ys.drop i)) ∧ Below W.heap.size W w' := fun W hW => by
    refine (bsf_any (.slice a0 n c0) ys r W (RowsV_below hVx (bstep hb1 hW)) (by rw [HN.out]; omega) (rises_mono HRI.out r)).mono ?_
    rintro e w' ⟨i, hi, rfl, p1, p2, hb⟩
    have hp := putAt_of hi p1 p2
    refine ⟨i, _, rfl, ⟨by rw [← HN.out]; exact hi, hp, fun h => put_found hp (of_decide_eq_true h), fun h => put_new hp (of_decide_eq_false h)⟩, hb⟩
  go_region_held3 (fun W => Below w1.heap.size w1 W ∧ W.cell? ⟨B, 0, none⟩ = some (.slice a0 n c0) ∧ W.cell? ⟨B, 1, none⟩ = some (.func (.func 77) #[] #[]) ∧ (W.cell? ⟨w.heap.size, 0, none⟩ = some (.string r.key) ∧ W.cell? ⟨w.heap.size, 0 + 1, none⟩ = some (.int .i64 r.ver) ∧ W.cell? ⟨w.heap.size, 0 + 2, none⟩ = some (.string r.val) ∧ W.cell? ⟨w.heap.size, 0 + 3, none⟩ = some (.bool r.gone))) ((refine addKeep ?_ q0 q1 qr; repeat (first | exact Below.refl _ _ | assumption | refine Below.drew ?_ | refine balloc ?_ _ | refine bstep ?_ (by assumption))))
    (first | (go_at_call 145; refine (hC _ (by repeat (first | exact Below.refl _ _ | assumption | refine Below.drew ?_ | refine balloc ?_ _ | refine bstep ?_ (by assumption)))).mono ?_; rintro e wa ⟨i, f, rfl, HP, hb2⟩))
  rename_i hH
  have hB2 : Below w.heap.size w wa := bstep hb1 hH.1
  have r0 := hH.2.1
  have rr : rowCells wa w.heap.size 0 r := hH.2.2.2
  have rf : wa.frozen? ⟨B, 0, none⟩ = false := (hB2.frozen (p := ⟨B, 0, none⟩) zB).trans hf
  have r1 : wa.cell? ⟨B, 1, none⟩ = some (.func (.func 77) #[] #[]) := hH.2.2.1
  have ro : wa.ownsRow base 61 4 (.slice a0 n c0) n (rwsC ys) := owns_below hown hB2
  have hs2 := hB2.size
  clear hH q0 q1 qr hC
  cases f with
  | true =>
    have HE : Hid (putL ys r = ys) := HP.out.2.2.1 rfl
    go_wp2
    go_end0
    refine ⟨⟨_, rfl⟩, .slice a0 n c0, ⟨r0, r1, rf, ?_, hne, ?_⟩, Mod.of_below hB2, fun b hb => .inl hb⟩
    · rw [HE.out, HN.out]
      exact ro
    · rw [HE.out]
      exact HRI.out
  | false =>
    have HE : Hid (putL ys r = ys.take i ++ [r] ++ ys.drop i) := HP.out.2.2.2 rfl
    have hin : i ≤ n := HP.out.1
    obtain ⟨z0, z1, z2, z3⟩ := rr
    simp only [Nat.zero_add] at z1 z2 z3
    go_wp2
    refine wp_region_noPanic ?_
    refine region_upto (fun W => Mod (fun b => (Value.slice a0 n c0).ownBlock = some b) wa W ∧ W.cell? ⟨B, 0, none⟩ = some (.slice a0 n c0) ∧ W.cell? ⟨w.heap.size, 0, none⟩ = some (.string r.key) ∧ W.cell? ⟨w.heap.size, 1, none⟩ = some (.int .i64 r.ver) ∧ W.cell? ⟨w.heap.size, 2, none⟩ = some (.string r.val) ∧ W.cell? ⟨w.heap.size, 3, none⟩ = some (.bool r.gone)) 11 (by kernel_rfl) ⟨Mod.of_below (Below.drew (Below.refl _ _)), r0, z0, z1, z2, z3⟩ (fun hS => ?_)
    refine upto_take (i := 0) (v := ?_) rfl (by kernel_rfl) (by kernel_rfl) (by kernel_rfl) (by kernel_rfl) (fun _ _ _ h => h) (by rfl) hS ?_ ?_
    rotate_left
    · intro wS hSw
      try dsimp only at hSw
      first | (go_simp; done) | (go_simp; with_reducible rfl)
    try simp only [Act.put, List.getElem_toArray, List.getElem_cons_zero, List.getElem_cons_succ, List.setIfInBounds_toArray, List.set_cons_zero, List.set_cons_succ]
    refine upto_take (i := 1) (v := ?_) rfl (by kernel_rfl) (by kernel_rfl) (by kernel_rfl) (by kernel_rfl) (fun _ _ _ h => h) (by rfl) hS ?_ ?_
    rotate_left
    · intro wS hSw
      try dsimp only at hSw
      first | (go_simp; done) | (go_simp; with_reducible rfl)
    try simp only [Act.put, List.getElem_toArray, List.getElem_cons_zero, List.getElem_cons_succ, List.setIfInBounds_toArray, List.set_cons_zero, List.set_cons_succ]
    refine upto_take (i := 2) (v := ?_) rfl (by kernel_rfl) (by kernel_rfl) (by kernel_rfl) (by kernel_rfl) (fun _ _ _ h => h) (by rfl) hS ?_ ?_
    rotate_left
    · intro wS hSw
      try dsimp only at hSw
      first | (go_simp; done) | (go_simp; with_reducible rfl)
    try simp only [Act.put, List.getElem_toArray, List.getElem_cons_zero, List.getElem_cons_succ, List.setIfInBounds_toArray, List.set_cons_zero, List.set_cons_succ]
    refine upto_take (i := 3) (v := ?_) rfl (by kernel_rfl) (by kernel_rfl) (by kernel_rfl) (by kernel_rfl) (fun _ _ _ h => h) (by rfl) hS ?_ ?_
    rotate_left
    · intro wS hSw
      try dsimp only at hSw
      first | (go_simp; done) | (go_simp; with_reducible rfl)
    try simp only [Act.put, List.getElem_toArray, List.getElem_cons_zero, List.getElem_cons_succ, List.setIfInBounds_toArray, List.set_cons_zero, List.set_cons_succ]
    refine upto_take (i := 4) (v := ?_) rfl (by kernel_rfl) (by kernel_rfl) (by kernel_rfl) (by kernel_rfl) (fun _ _ _ h => h) (by rfl) hS ?_ ?_
    rotate_left
    · intro wS hSw
      try dsimp only at hSw
      first | (go_simp; done) | (go_simp; with_reducible rfl)
    try simp only [Act.put, List.getElem_toArray, List.getElem_cons_zero, List.getElem_cons_succ, List.setIfInBounds_toArray, List.set_cons_zero, List.set_cons_succ]
    refine upto_take (i := 5) (v := ?_) rfl (by kernel_rfl) (by kernel_rfl) (by kernel_rfl) (by kernel_rfl) (fun _ _ _ h => h) (by rfl) hS ?_ ?_
    rotate_left
    · intro wS hSw
      try dsimp only at hSw
      first | (go_simp; done) | (go_simp; with_reducible rfl)
    try simp only [Act.put, List.getElem_toArray, List.getElem_cons_zero, List.getElem_cons_succ, List.setIfInBounds_toArray, List.set_cons_zero, List.set_cons_succ]
    refine upto_take (i := 6) (v := ?_) rfl (by kernel_rfl) (by kernel_rfl) (by kernel_rfl) (by kernel_rfl) (fun _ _ _ h => h) (by rfl) hS ?_ ?_
    rotate_left
    · intro wS hSw
      try dsimp only at hSw
      first | (go_simp; done) | (go_simp; with_reducible rfl)
    try simp only [Act.put, List.getElem_toArray, List.getElem_cons_zero, List.getElem_cons_succ, List.setIfInBounds_toArray, List.set_cons_zero, List.set_cons_succ]
    refine upto_step (i := 7) (by kernel_rfl) rfl ?_
    intro K hK
    go_simp
    have hb3 : Below wa.heap.size wa (wa.alloc (.cells #[.string r.key, .int .i64 r.ver, .string r.val, .bool r.gone] 61)).drew := Below.drew (balloc (Below.refl _ _) _)
    have hv3 : (wa.alloc (.cells #[.string r.key, .int .i64 r.ver, .string r.val, .bool r.gone] 61)).drew.heap[wa.heap.size]? = some (.cells (rowC r).toArray 61 (0, 0)) := World.alloc_heap_new wa _
    generalize (wa.alloc (.cells #[.string r.key, .int .i64 r.ver, .string r.val, .bool r.gone] 61)).drew = w3 at *
    have hs3 := hb3.size
    have k0 := cell_keep hb3 r0
    have k1 := cell_keep hb3 r1
    have kf : w3.frozen? ⟨B, 0, none⟩ = false := (hb3.frozen (p := ⟨B, 0, none⟩) (by dsimp only; omega)).trans rf
    have ko := owns_below ro hb3
    refine hK _ _ (fun _ => ⟨Mod.of_below hb3, k0, cell_keep hb3 z0, cell_keep hb3 z1, cell_keep hb3 z2, cell_keep hb3 z3⟩) ?_
    clear hK K hS
    try simp only [Act.put, List.getElem_toArray, List.getElem_cons_zero, List.getElem_cons_succ, List.setIfInBounds_toArray, List.set_cons_zero, List.set_cons_succ]
    refine upto_step (i := 8) (by kernel_rfl) rfl ?_
    intro K hK
    go_simp
    refine (insert_any base (.slice a0 n c0) i wa.heap.size ys r w3 (by rw [HN.out]; exact ko) (by rw [HN.out]; exact hin) (by rw [HN.out]; exact hn) (by omega) hv3 ?_).mono ?_
    · intro e
      have := (ro.lt _ e).2
      omega
    rintro e w4 ⟨v4, rfl, o4, m4, l4⟩
    have hnw : (Value.slice a0 n c0).ownBlock ≠ some w.heap.size := fun e => by
      have := (hown.lt _ e).2
      omega
    have hs4 := m4.size
    have j0 := m4.cell k0 hne
    have j1 := m4.cell k1 hne
    have jf : w4.frozen? ⟨B, 0, none⟩ = false := (m4.frozen (a := ⟨B, 0, none⟩) (by dsimp only; omega) hne).trans kf
    have hM4 : Mod (fun b => (Value.slice a0 n c0).ownBlock = some b) wa w4 := (Mod.of_below hb3).trans m4
    have hS4 := And.intro hM4 (And.intro j0 (And.intro (m4.cell (cell_keep hb3 z0) hnw) (And.intro (m4.cell (cell_keep hb3 z1) hnw) (And.intro (m4.cell (cell_keep hb3 z2) hnw) (m4.cell (cell_keep hb3 z3) hnw)))))
    refine hK _ _ (fun _ => hS4) ?_
    clear hK K
    try simp only [Act.put, List.getElem_toArray, List.getElem_cons_zero, List.getElem_cons_succ, List.setIfInBounds_toArray, List.set_cons_zero, List.set_cons_succ]
    refine upto_step (i := 9) (by kernel_rfl) rfl ?_
    intro K hK
    go_simp
    refine hK _ _ (fun _ => hS4) ?_
    clear hK K
    try simp only [Act.put, List.getElem_toArray, List.getElem_cons_zero, List.getElem_cons_succ, List.setIfInBounds_toArray, List.set_cons_zero, List.set_cons_succ]
    refine upto_step (i := 10) (by kernel_rfl) rfl ?_
    intro K hK
    go_simp
    refine hK _ _ (fun _ => hS4) ?_
    clear hK K
    try simp only [Act.put, List.getElem_toArray, List.getElem_cons_zero, List.getElem_cons_succ, List.setIfInBounds_toArray, List.set_cons_zero, List.set_cons_succ]
    obtain ⟨L4, hL4⟩ : ∃ L4, (ys.take i ++ [r] ++ ys.drop i).length = L4 := ⟨_, rfl⟩
    rw [hL4] at o4
    have HL4 : Hid ((ys.take i ++ [r] ++ ys.drop i).length = L4) := hL4
    clear hL4
    obtain ⟨a4, c4, rfl⟩ := owns_form o4
    refine upto_step (i := 11) (by kernel_rfl) rfl ?_
    intro K hK
    go_simp
    refine hK _ _ (fun h => absurd rfl h) ?_
    clear hK K
    refine upto_done (by kernel_rfl) ?_
    refine NoPanic.normal ?_
    go_wp2
    go_end0
    have hset := Mod.of_set w4 ⟨B, 0, none⟩ (.slice a4 L4 c4)
    have hsz := hset.size
    have hnb : ∀ b, (Value.slice a4 L4 c4).ownBlock = some b → b ≠ B := fun b hb e => by
      rcases l4 b hb with h | h
      · exact hne (by rw [h, e])
      · omega
    refine ⟨⟨_, rfl⟩, .slice a4 L4 c4, ⟨set_same j0, (set_other (by simp)).trans j1, by rw [World.frozen?_setCell]; exact jf, ?_, fun e => hnb B e rfl, putL_rises r HRI.out⟩, ?_, fun b hb => ?_⟩
    · rw [HE.out, HL4.out]
      exact o4.kept (w' := w4.setCell ⟨B, 0, none⟩ (.slice a4 L4 c4)) ⟨rfl, rfl, rfl, hsz, fun k hk hn => hset.block k hk (fun e => hn (by rw [e]))⟩ (.inr (fun e => hnb B e rfl))
    · exact ((Mod.of_below hB2).trans (hM4.mono (fun b h => .inr h))).trans (hset.mono (fun b h => .inl h))
    · rcases l4 b hb with h | h
      · exact .inl h
      · exact .inr ⟨by omega, by omega⟩
end Go.Proofs.Yteebglgbeijolaa

/-
  merged: rows of several iterators put into one list, until there are too many.
-/
namespace Go.Proofs.Yteebglgbeijolaa
open Go.RowKit Go.Shelf
set_option linter.unusedSectionVars false
variable [DecidableEq Rw] [Inhabited Rw] [DecidableEq TabR] [Inhabited TabR]
set_option linter.unusedVariables false
set_option linter.unusedSimpArgs false
attribute [local go_sem ↓] Go.wp_at_zero Go.wp_at_succ
attribute [local go_sem] Oper.semAt_some
attribute [local go_sem] run_store_func

theorem Seqx.mod {α : Type} {P : Program} {g : Nat} {lb : Array Value} {enc : α → Value} {xs : List α} {R : Nat → Prop} {w W0 : World} (h : Seqx P g lb enc xs R w) (hm : Mod (fun k => ¬ R k) w W0) : Seqx P g lb enc xs R W0 :=
  fun l J Jx W X hm2 => h l J Jx W X (hm.trans hm2)
def PartsV (w : World) (v : Value) (m : Nat) (gs : Nat → Nat) (lbs : Nat → Array Value) : Prop :=
  ∃ a cap, v = .slice a m cap ∧ m ≤ cap ∧ cap ≤ maxLen ∧ ∀ i, i < m → ∃ b o, a = some ⟨b, o, none⟩ ∧ w.cell? ⟨b, o + i, none⟩ = some (.func (.func (gs i)) #[] (lbs i))
def marks (ds : List Nat) : List Deferred := ds.map (fun D => { target := .collected D, args := #[] })
structure MrgB (w : World) (N most : Nat) (f : Bool) (W : World) (v : Value) (ys : List Rw) (ds : List Nat) : Prop where
  l : LstB W (N + 4) (N + 2) v ys
  c : W.cell? ⟨N, 0, none⟩ = some (.int .i64 most)
  r0 : W.cell? ⟨N + 1, 0, none⟩ = some (.slice none 0 0)
  r1 : ∃ u, W.cell? ⟨N + 1, 1, none⟩ = some u
  rf : ∀ o, W.frozen? ⟨N + 1, o, none⟩ = false
  t : W.cell? ⟨N + 3, 0, none⟩ = some (.bool f)
  tf : W.frozen? ⟨N + 3, 0, none⟩ = false
  s : N + 4 ≤ W.heap.size
  d : ∀ D ∈ ds, N + 4 ≤ D ∧ W.heap[D]? = some (.deferred (some [])) ∧ v.ownBlock ≠ some D
  dd : ds.Nodup
  b : Below N w W
theorem MrgB.mod {w : World} {N most : Nat} {f : Bool} {W W' : World} {v : Value} {ys : List Rw} {ds : List Nat} {F : Nat → Prop} (h : MrgB w N most f W v ys ds) (hm : Mod F W W') (hF : ∀ b, b < N + 4 → ¬ F b) (hFv : ∀ b, v.ownBlock = some b → ¬ F b) (hFd : ∀ D ∈ ds, ¬ F D) :
    MrgB w N most f W' v ys ds := by
  obtain ⟨hl, hc, h0, ⟨u, h1⟩, hf, ht, htf, hs, hd, hdd, hb⟩ := h
  have hz := hm.size
  refine ⟨⟨hm.cell hl.c0 (hF _ (by dsimp only; omega)), hm.cell hl.c1 (hF _ (by dsimp only; omega)), (hm.frozen (a := ⟨N + 2, 0, none⟩) (by dsimp only; omega) (hF _ (by dsimp only; omega))).trans hl.fr, hm.owns hl.own hFv, hl.ne, hl.ri⟩,
    hm.cell hc (hF _ (by dsimp only; omega)), hm.cell h0 (hF _ (by dsimp only; omega)), ⟨u, hm.cell h1 (hF _ (by dsimp only; omega))⟩, fun o => (hm.frozen (a := ⟨N + 1, o, none⟩) (by dsimp only; omega) (hF _ (by dsimp only; omega))).trans (hf o),
    hm.cell ht (hF _ (by dsimp only; omega)), (hm.frozen (a := ⟨N + 3, 0, none⟩) (by dsimp only; omega) (hF _ (by dsimp only; omega))).trans htf, by omega, fun D hD => ?_, hdd, ?_⟩
  · obtain ⟨p1, p2, p3⟩ := hd D hD
    exact ⟨p1, (hm.block D (Array.getElem?_eq_some_iff.1 p2).1 (hFd D hD)).trans p2, p3⟩
  · exact ⟨hm.os.trans hb.os, hm.tape.trans hb.tape, hm.output.trans hb.output, Nat.le_trans hb.size hz, fun b hb' => (hm.block b (by omega) (hF b (by omega))).trans (hb.block b hb')⟩
theorem MrgB.add {w : World} {N most : Nat} {W W' : World} {v v' : Value} {ys ys' : List Rw} {ds : List Nat} (f : Bool) (h : MrgB w N most true W v ys ds) (hl : LstB W' (N + 4) (N + 2) v' ys') (hm : Mod (fun b => b = N + 2 ∨ v.ownBlock = some b) W W')
    (ho : ∀ b, v'.ownBlock = some b → v.ownBlock = some b ∨ (W.heap.size ≤ b ∧ b < W'.heap.size)) : MrgB w N most f (W'.setCell ⟨N + 3, 0, none⟩ (.bool f)) v' ys' ds ∧ Mod (fun b => b = N + 2 ∨ v.ownBlock = some b ∨ b = N + 3) W (W'.setCell ⟨N + 3, 0, none⟩ (.bool f)) := by
  have hset : Mod (fun b => b = N + 3) W' (W'.setCell ⟨N + 3, 0, none⟩ (.bool f)) := Mod.of_set W' ⟨N + 3, 0, none⟩ (.bool f)
  have hM : Mod (fun b => b = N + 2 ∨ v.ownBlock = some b ∨ b = N + 3) W (W'.setCell ⟨N + 3, 0, none⟩ (.bool f)) := (hm.mono (fun b h => h.imp id .inl)).trans (hset.mono (fun b h => .inr (.inr h)))
  have hlow : ∀ b, b < N + 2 → ¬ (b = N + 2 ∨ v.ownBlock = some b ∨ b = N + 3) := by
    rintro b hb (h1 | h1 | h1)
    · omega
    · have := (h.l.own.lt b h1).1
      omega
    · omega
  have h3 : ¬ (N + 3 = N + 2 ∨ v.ownBlock = some (N + 3)) := by
    rintro (h1 | h1)
    · omega
    · have := (h.l.own.lt _ h1).1
      omega
  have hs := h.s
  have z1 := hM.size
  have z2 := hm.size
  obtain ⟨u, hu⟩ := h.r1
  refine ⟨⟨⟨hset.cell hl.c0 (by dsimp only; omega), hset.cell hl.c1 (by dsimp only; omega), by rw [World.frozen?_setCell]; exact hl.fr, hset.owns hl.own (fun b hb e => by have := (hl.own.lt b hb).1; omega), hl.ne, hl.ri⟩,
    hM.cell h.c (hlow _ (by dsimp only; omega)), hM.cell h.r0 (hlow _ (by dsimp only; omega)), ⟨u, hM.cell hu (hlow _ (by dsimp only; omega))⟩, fun o => (hM.frozen (a := ⟨N + 1, o, none⟩) (by dsimp only; omega) (hlow _ (by dsimp only; omega))).trans (h.rf o),
    set_same (hm.cell h.t h3), by rw [World.frozen?_setCell]; exact (hm.frozen (a := ⟨N + 3, 0, none⟩) (by dsimp only; omega) h3).trans h.tf, by omega, fun D hD => ?_, h.dd, ?_⟩, hM⟩
  · obtain ⟨p1, p2, p3⟩ := h.d D hD
    have hlt := (Array.getElem?_eq_some_iff.1 p2).1
    refine ⟨p1, (hM.block D hlt (by rintro (e | e | e); omega; exact p3 e; omega)).trans p2, fun e => ?_⟩
    rcases ho D e with e | e
    · exact p3 e
    · omega
  · have hb := h.b
    exact ⟨hM.os.trans hb.os, hM.tape.trans hb.tape, hM.output.trans hb.output, Nat.le_trans hb.size z1, fun b hb' => (hM.block b (by omega) (hlow b (by omega))).trans (hb.block b hb')⟩
def unmark (W : World) (ds : List Nat) : World := ds.foldl (fun W D => W.putObj D (.deferred none)) W
theorem unmark_mod : ∀ (ds : List Nat) (W : World), Mod (fun b => b ∈ ds) W (unmark W ds)
  | [], W => Mod.refl _ _
  | D :: ds, W => ((mod_put W D _).mono (fun b h => by rw [h]; exact List.mem_cons_self ..)).trans ((unmark_mod ds _).mono (fun b h => List.mem_cons_of_mem _ h))
theorem leaves_marks {P : Program} {fn : Func} {tmps : Array Value} {R : Ending → World → Prop} : ∀ (ds : List Nat) (W : World), (∀ D ∈ ds, W.heap[D]? = some (.deferred (some []))) → ds.Nodup →
    LeavesInM Fence.wide 0 P fn tmps R [] .returning (unmark W ds) → LeavesInM Fence.wide 0 P fn tmps R (marks ds) .returning W
  | [], W, _, _, h => h
  | D :: ds, W, hd, hn, h => by
    rw [List.nodup_cons] at hn
    refine ⟨by simp, .inl ⟨D, W.putObj D (.deferred none), rfl, run_takeDeferred (hd D (List.mem_cons_self ..)), leaves_marks ds _ (fun E hE => ?_) hn.2 h⟩⟩
    have hne : E ≠ D := fun e => hn.1 (by rw [← e]; exact hE)
    exact (World.putObj_heap_other hne).trans (hd E (List.mem_cons_of_mem _ hE))
def MrgI (w : World) (N most : Nat) (ds : List Nat) (done : List Rw) (f : Bool) (pre : List Rw) (W : World) (Y : Nat → Prop) : Prop :=
  ∃ v, MrgB w N most f W v (putsL [] (done ++ pre)) ds ∧ (∀ b, b < N + 4 → ¬ Y b) ∧ (∀ b, v.ownBlock = some b → ¬ Y b) ∧ (∀ D ∈ ds, ¬ Y D) ∧ (f = true → (putsL [] (done ++ pre)).length ≤ most)
theorem MrgI_stb (w : World) (N most : Nat) (ds : List Nat) (done : List Rw) (f : Bool) : Stb (MrgI w N most ds done f) := by
  rintro pre W W' Y Y' ⟨v, h, h1, h2, h3, h4⟩ hm hYY hYn
  refine ⟨v, h.mod hm h1 h2 h3, fun b hb hy => ?_, fun b hb hy => ?_, fun D hD hy => ?_, h4⟩
  · rcases (hYn b hy).1 with h' | h'
    · exact h1 b hb h'
    · have := h.s
      omega
  · rcases (hYn b hy).1 with h' | h'
    · exact h2 b hb h'
    · have := (h.l.own.lt b hb).2
      omega
  · rcases (hYn D hy).1 with h' | h'
    · exact h3 D hD h'
    · have := (Array.getElem?_eq_some_iff.1 (h.d D hD).2.1).1
      omega
def MrgX (w : World) (N most : Nat) (ds : List Nat) (done : List Rw) (c : Code) (pre : List Rw) (W : World) (Y : Nat → Prop) : Prop :=
  c = .exit 0 ∧ most < (putsL [] (done ++ pre)).length ∧ MrgI w N most ds done false pre W Y
theorem MrgX_stb (w : World) (N most : Nat) (ds : List Nat) (done : List Rw) (c : Code) : Stb (MrgX w N most ds done c) := by
  rintro pre W W' Y Y' ⟨e, hl, h⟩ hm hYY hYn
  exact ⟨e, hl, MrgI_stb w N most ds done false pre W W' Y Y' h hm hYY hYn⟩
set_option maxRecDepth 100000 in
set_option maxHeartbeats 8000000 in
theorem merged_any (pv : Value) (m most : Nat) (gs : Nat → Nat) (lbs : Nat → Array Value) (xss : Nat → List Rw) (w : World) (hp : PartsV w pv m gs lbs) (hmost : most ≤ 1048576) (htot : (flatTo xss m).length ≤ 1000000)
    (heg : ∀ i, i < m → ∀ args w, (callFunc (gs i) args).run Try.prog w = .ok (.enter (gs i) args) w) (hseq : ∀ i, i < m → Seqx Try.prog (gs i) (lbs i) rowV (xss i) (fun b => b < w.heap.size) w) :
    Calls Try.prog 76 #[cmpF, .int .i64 most, pv] w fun e w' => ∃ v f, e = .returned (.tuple #[.agg #[v, cmpF], .bool f]) ∧ (∃ a n c, v = .slice a n c) ∧ Below w.heap.size w w' ∧
      (f = true → w'.ownsRow w.heap.size 61 4 v (putsL [] (flatTo xss m)).length (rwsC (putsL [] (flatTo xss m))) ∧ (putsL [] (flatTo xss m)).length ≤ most) ∧ (f = false → most < (putsL [] (flatTo xss m)).length) := by
  obtain ⟨ap, cp, rfl, hmc, hcm, hpart⟩ := hp
  unfold maxLen at hcm
  have HSEQ : Hid (∀ i, i < m → Seqx Try.prog (gs i) (lbs i) rowV (xss i) (fun b => b < w.heap.size) w) := hseq
  have HEG : Hid (∀ i, i < m → ∀ args w, (callFunc (gs i) args).run Try.prog w = .ok (.enter (gs i) args) w) := heg
  have HTOT : Hid ((flatTo xss m).length ≤ 1000000) := htot
  clear hseq heg htot
  refine (callsIn_wide (n := 0)).1 ?_
  refine callsIn_of_wp_marks Try.func76 rfl trivial ?_ rfl
  refine wpIn_wide.2 ?_
  unfold cmpF
  simp only [Try.ntmps76, List.size_toArray, List.length_cons, List.length_nil, Nat.reduceAdd, Nat.reduceSub, Array.replicate_succ, Array.replicate_zero, List.push_toArray, List.append_toArray, List.nil_append, List.cons_append]
  go_wp2
  refine wp_scope_straight ?_
  go_wp2
  refine wp_label ?_
  go_wp2
  obtain ⟨N, hN⟩ : ∃ N, N = w.heap.size := ⟨_, rfl⟩
  have HN : Hid (N = w.heap.size) := hN
  obtain ⟨W0, hW0⟩ : ∃ W0, W0 = ((((w.alloc (.cells #[.int .i64 most] 3)).alloc (.cells #[.slice none 0 0, .nilFunc] 122)).alloc (.cells #[.slice none 0 0, .func (.func 77) #[] #[]] 122)).alloc (.cells #[.bool true] 4)) := ⟨_, rfl⟩
  have hB0 : MrgB w N most true W0 (.slice none 0 0) (putsL [] (flatTo xss 0)) [] := by
    rw [hN, hW0]
    refine ⟨⟨by simp [go_sem], by simp [go_sem, cmpF], by simp [go_sem], World.ownsRow_nil _ _ _ _, by simp [Value.ownBlock], rises_nil⟩, by simp [go_sem], by simp [go_sem], ⟨.nilFunc, by simp [go_sem]⟩, fun o => by simp [go_sem], by simp [go_sem], by simp [go_sem], by simp, fun D hD => by simp at hD, List.nodup_nil, ?_⟩
    exact balloc (balloc (balloc (balloc (Below.refl _ _) _) _) _) _
  rw [← hW0, ← hN]
  clear hW0 hN
  refine wp_loop (fun a W => ∃ (k : Nat) (v : Value) (ds : List Nat) (u11 u18 u19 u20 u21 u32 : Value), k ≤ m ∧ Hid (MrgB w N most true W v (putsL [] (flatTo xss k)) ds) ∧ (putsL [] (flatTo xss k)).length ≤ most ∧
    a = { tmps := #[.func (.func 77) #[] #[], .int .i64 most, .slice ap m cp, undef, .pointer (some ⟨N, 0, none⟩), undef, .pointer (some ⟨N + 1, 0, none⟩), .bool false, .pointer (some ⟨N + 1 + 1, 0, none⟩), .pointer (some ⟨N + 1 + 1 + 1, 0, none⟩), undef, u11, undef,
      .func (.func 77) #[] #[], .agg #[.slice none 0 0, .func (.func 77) #[] #[]], .slice ap m cp, .int .i64 m, .int .i64 k, u18, u19, u20, u21, undef, undef, undef, undef, undef, undef, undef, undef, undef, undef, u32, undef, undef], defers := marks ds }) (fun a _ => m - (intOf (a.tmps.getD 17 undef)).toNat) ?_ ?_
  · exact ⟨0, .slice none 0 0, [], undef, undef, undef, undef, undef, undef, Nat.zero_le _, hB0, Nat.zero_le _, rfl⟩
  clear hB0
  rintro a W ⟨k, v, ds, u11, u18, u19, u20, u21, u32, hk, HB, hlen, rfl⟩
  by_cases hlt : k < m
  · obtain ⟨b, o, rfl, hc⟩ := hpart k hlt
    have hc2 : W.cell? ⟨b, o + k, none⟩ = some (.func (.func (gs k)) #[] (lbs k)) := (HB.out.b.cell (p := ⟨b, o + k, none⟩) (by rw [HN.out]; exact World.block_lt_of_cell? _ _ hc)).trans hc
    have hi4 : (0 : Int) ≤ k := by omega
    have hi5 : (k : Int) < m := by omega
    have hseqW : Seqx Try.prog (gs k) (lbs k) rowV (xss k) (fun b => b < w.heap.size) W := (HSEQ.out k hlt).mod ⟨HB.out.b.os, HB.out.b.tape, HB.out.b.output, by have := HB.out.b.size; have := HN.out; omega, fun b hb hn => HB.out.b.block b (by have := HN.out; omega)⟩
    have hRa : ∀ b, b < w.heap.size → b < W.heap.size := fun b hb => by have := HB.out.s; have := HN.out; omega
    have HSQ : Hid (Seqx Try.prog (gs k) (lbs k) rowV (xss k) (fun b => b < w.heap.size) W) := hseqW
    have HRA : Hid (∀ b, b < w.heap.size → b < W.heap.size) := hRa
    have HFL : Hid (∀ pre, pre <+: xss k → (putsL [] (flatTo xss k ++ pre)).length ≤ 1000000) := fun pre hpre => by
      have h1 := (length_putsL (flatTo xss k ++ pre) []).2
      have h2 := hpre.length_le
      have h3 : ∀ n, k < n → n ≤ m → (flatTo xss k).length + (xss k).length ≤ (flatTo xss n).length := by
        intro n
        induction n with
        | zero => intro h; omega
        | succ n ih =>
          intro h h'
          have e0 : flatTo xss (n + 1) = flatTo xss n ++ xss n := rfl
          rw [e0, List.length_append]
          by_cases e : k = n
          · subst e; omega
          · have := ih (by omega) (by omega); omega
      have h4 := h3 m hlt (Nat.le_refl _)
      have h5 := HTOT.out
      simp only [List.length_nil, List.length_append, Nat.zero_add] at h1
      omega
    have HI0 : Hid (MrgI w N most ds (flatTo xss k) true [] W (fun _ => False)) := ⟨v, by rw [List.append_nil]; exact HB.out, fun _ _ h => h, fun _ _ h => h, fun _ _ h => h, fun _ => by rw [List.append_nil]; exact hlen⟩
    have hs4 := HB.out.s
    clear hseqW hRa
    go_wp2
    refine (wpIn_wide (n := 0)).1 ?_
    refine wp_rangeX (gf := gs k) rfl (HEG.out k hlt) HSQ.out HRA.out (MrgI w N most ds (flatTo xss k) true) (MrgX w N most ds (flatTo xss k)) (MrgI_stb _ _ _ _ _ _) (MrgX_stb _ _ _ _ _) (fun _ => False) (fun _ h => h.elim) HI0.out
      (fun x => RowBox (N + 4) (fun B => { tmps := #[.func (.func 77) #[] #[], .int .i64 most, .slice (some ⟨b, o, none⟩) m cp, undef, .pointer (some ⟨N, 0, none⟩), undef, .pointer (some ⟨N + 1, 0, none⟩), .bool false, .pointer (some ⟨N + 1 + 1, 0, none⟩), .pointer (some ⟨N + 1 + 1 + 1, 0, none⟩), undef, .func (.func (gs k)) #[] (lbs k), .pointer (some ⟨B, 0, none⟩),
        .func (.func 77) #[] #[], .agg #[.slice none 0 0, .func (.func 77) #[] #[]], .slice (some ⟨b, o, none⟩) m cp, .int .i64 m, .int .i64 k, .bool true, .pointer (some ⟨b, o + k, none⟩), .func (.func (gs k)) #[] (lbs k), .func (.func (gs k)) #[] (lbs k), .agg #[.string x.key, .int .i64 x.ver, .string x.val, .bool x.gone], undef, undef, undef, undef, undef, undef, undef, undef, undef, u32, undef, undef], defers := [] }) x)
      (fun x a' => RowBox_stb _ _ x a') ?assign ?body ?done ?stop
    case assign =>
      rintro l2 pre x W3 Y K ⟨_, hB3, _⟩ hYl hYa hK
      have h3s := hB3.s
      unfold rowV
      gi_wp2
      refine hK _ _ (mod_alloc _ _ _) ⟨W3.heap.size, h3s, by simp, by unfold rowCells; simp [go_sem], fun h => ?_, rfl⟩
      have := hYa _ h
      omega
    case body =>
      rintro l2 pre x a' W3 Y hYl hYa ⟨v3, hB3, y1, y2, y3, y4⟩ ⟨B, hBlo, hBs, hr, hYB, rfl⟩ hpre
      have HP : Hid (putsL [] (flatTo xss k ++ (pre ++ [x])) = putL (putsL [] (flatTo xss k ++ pre)) x) := by
        rw [Hid, ← List.append_assoc, putsL_snoc]
      have hfl := HFL.out pre ((List.prefix_append pre [x]).trans hpre)
      obtain ⟨r0, r1, r2, r3⟩ := hr
      simp only [Nat.zero_add] at r1 r2 r3
      have HB3 : Hid (MrgB w N most true W3 v3 (putsL [] (flatTo xss k ++ pre)) ds) := hB3
      have hl3 := hB3.l
      have hs3 := hB3.s
      clear hB3
      generalize putsL [] (flatTo xss k ++ pre) = ys at *
      gi_wp2
      refine ⟨trivial, rfl, (CallsIn.inRound l2 (callsIn_wide.2 (add_any (N + 2) v3 ys x (N + 4) W3 hl3 (by omega) hs3))).mono ?_⟩
      rintro e W4 ⟨⟨u, rfl⟩, v4, l4, m4, o4⟩
      obtain ⟨L4, hL4⟩ : ∃ L4, (putL ys x).length = L4 := ⟨_, rfl⟩
      have HL4 : Hid ((putL ys x).length = L4) := hL4
      have k0 := l4.own
      rw [hL4] at k0
      clear hL4
      obtain ⟨a4, c4, rfl⟩ := owns_form k0
      clear k0
      have k0 : W4.cell? ⟨N + 1 + 1, 0, none⟩ = some (.slice a4 L4 c4) := l4.c0
      have h4s : L4 ≤ 1000001 := by
        have := (length_putL ys x).2
        have := HL4.out
        omega
      have k1 : W4.cell? ⟨N, 0, none⟩ = some (.int .i64 most) := m4.cell HB3.out.c (by rintro (h | h); dsimp only at h; omega; have := (hl3.own.lt _ h).1; dsimp only at this; omega)
      have hn3 : ¬ (N + 3 = N + 2 ∨ v3.ownBlock = some (N + 3)) := by
        rintro (h | h)
        · omega
        · have := (hl3.own.lt _ h).1
          omega
      have k2 : W4.cell? ⟨N + 1 + 1 + 1, 0, none⟩ = some (.bool true) := m4.cell HB3.out.t hn3
      have k3 : W4.frozen? ⟨N + 1 + 1 + 1, 0, none⟩ = false := (m4.frozen (a := ⟨N + 3, 0, none⟩) (by dsimp only; omega) hn3).trans HB3.out.tf
      have HA := fun f => MrgB.add f HB3.out l4 m4 o4
      have HKP : Hid (∀ W5, Mod (fun b => b = N + 2 ∨ v3.ownBlock = some b ∨ b = N + 3) W3 W5 → Kp (fun b => b < w.heap.size) Y W3 W5) := fun W5 hm => hm.mono (fun b h => by
        have hwN := HN.out
        rcases h with rfl | h | rfl
        · rintro (h2 | h2)
          · omega
          · exact y1 _ (by omega) h2
        · have := (hl3.own.lt b h).1
          rintro (h2 | h2)
          · omega
          · exact y2 b h h2
        · rintro (h2 | h2)
          · omega
          · exact y1 _ (by omega) h2)
      have HYO : Hid (∀ b, (Value.slice a4 L4 c4).ownBlock = some b → ¬ Y b) := fun b hb hy => by
        rcases o4 b hb with h | h
        · exact y2 b h hy
        · have := hYa b hy
          omega
      by_cases hle : L4 ≤ most
      · have hd : decide ((L4 : Int) ≤ (most : Int)) = true := decide_eq_true (by omega)
        have HH := HA true
        have HN1 : Hid (MrgB w N most true (W4.setCell ⟨N + 1 + 1 + 1, 0, none⟩ (.bool true)) (.slice a4 L4 c4) (putL ys x) ds ∧ Mod (fun b => b = N + 2 ∨ v3.ownBlock = some b ∨ b = N + 3) W3 (W4.setCell ⟨N + 1 + 1 + 1, 0, none⟩ (.bool true))) := HH
        clear HH HA
        gi_wp2
        refine ⟨HKP.out _ HN1.out.2, .slice a4 L4 c4, ?_, y1, HYO.out, y3, fun _ => ?_⟩
        · rw [HP.out]
          exact HN1.out.1
        · rw [HP.out, HL4.out]
          exact hle
      · have hd : decide ((L4 : Int) ≤ (most : Int)) = false := decide_eq_false (by omega)
        have HH := HA false
        have HN1 : Hid (MrgB w N most false (W4.setCell ⟨N + 1 + 1 + 1, 0, none⟩ (.bool false)) (.slice a4 L4 c4) (putL ys x) ds ∧ Mod (fun b => b = N + 2 ∨ v3.ownBlock = some b ∨ b = N + 3) W3 (W4.setCell ⟨N + 1 + 1 + 1, 0, none⟩ (.bool false))) := HH
        clear HH HA
        gi_wp2
        refine ⟨HKP.out _ HN1.out.2, rfl, ?_, .slice a4 L4 c4, ?_, y1, HYO.out, y3, fun h => by cases h⟩
        · rw [HP.out, HL4.out]
          omega
        · rw [HP.out]
          exact HN1.out.1
    case done =>
      rintro D W5 Y hD hYD ⟨v5, hB5, y1, y2, y3, y4⟩ hdef
      have hBk : MrgB w N most true W5 v5 (putsL [] (flatTo xss (k + 1))) (D :: ds) := by
        refine ⟨hB5.l, hB5.c, hB5.r0, hB5.r1, hB5.rf, hB5.t, hB5.tf, hB5.s, fun E hE => ?_, ?_, hB5.b⟩
        · rcases List.mem_cons.1 hE with rfl | hE
          · exact ⟨by omega, hdef, fun e => y2 _ e hYD⟩
          · exact hB5.d E hE
        · rw [List.nodup_cons]
          exact ⟨fun h => y3 D h hYD, hB5.dd⟩
      have hlk : (putsL [] (flatTo xss (k + 1))).length ≤ most := y4 rfl
      have HBk : Hid (MrgB w N most true W5 v5 (putsL [] (flatTo xss (k + 1))) (D :: ds) ∧ (putsL [] (flatTo xss (k + 1))).length ≤ most) := ⟨hBk, hlk⟩
      clear hBk hlk hB5 y1 y2 y3 y4
      go_wp2
      refine ⟨⟨k + 1, v5, D :: ds, _, _, _, _, _, _, by omega, HBk.out.1, HBk.out.2, rfl⟩, ?_⟩
      simp [intOf]
      omega
    case stop =>
      rintro D c pre W5 Y hD hYD hpre ⟨rfl, hlong, v5, hB5, y1, y2, y3, y4⟩ hdef
      have HB5 : Hid (MrgB w N most false W5 v5 (putsL [] (flatTo xss k ++ pre)) (D :: ds)) := by
        refine ⟨hB5.l, hB5.c, hB5.r0, hB5.r1, hB5.rf, hB5.t, hB5.tf, hB5.s, fun E hE => ?_, ?_, hB5.b⟩
        · rcases List.mem_cons.1 hE with rfl | hE
          · exact ⟨by omega, hdef, fun e => y2 _ e hYD⟩
          · exact hB5.d E hE
        · rw [List.nodup_cons]
          exact ⟨fun h => y3 D h hYD, hB5.dd⟩
      clear hB5 y1 y2 y3 y4
      refine wpIn_wide.2 ?_
      go_wp2
      obtain ⟨L5, hL5⟩ : ∃ L5, (putsL [] (flatTo xss k ++ pre)).length = L5 := ⟨_, rfl⟩
      have HL5 : Hid ((putsL [] (flatTo xss k ++ pre)).length = L5) := hL5
      have o5 := HB5.out.l.own
      rw [hL5] at o5
      clear hL5
      obtain ⟨a5, c5, rfl⟩ := owns_form o5
      have e0 : W5.cell? ⟨N + 1 + 1, 0, none⟩ = some (.slice a5 L5 c5) := HB5.out.l.c0
      have e1 : W5.cell? ⟨N + 1 + 1, 1, none⟩ = some (.func (.func 77) #[] #[]) := HB5.out.l.c1
      have e2 : W5.cell? ⟨N + 1 + 1 + 1, 0, none⟩ = some (.bool false) := HB5.out.t
      have e3 := HB5.out.r0
      obtain ⟨u1, e4⟩ := HB5.out.r1
      have e5 := HB5.out.rf
      have hs5 := HB5.out.s
      refine wp_region_noPanic ?_
      refine region_upto (fun W' => W'.cell? ⟨N + 1 + 1, 0, none⟩ = some (.slice a5 L5 c5) ∧ W'.cell? ⟨N + 1 + 1, 1, none⟩ = some (.func (.func 77) #[] #[]) ∧ W'.cell? ⟨N + 1 + 1 + 1, 0, none⟩ = some (.bool false)) 3 (by kernel_rfl) ⟨e0, e1, e2⟩ (fun hS => ?_)
      refine upto_take (i := 0) (v := ?_) rfl (by kernel_rfl) (by kernel_rfl) (by kernel_rfl) (by kernel_rfl) (fun _ _ _ h => h) (by rfl) hS ?_ ?_
      rotate_left
      · intro wS hSw
        try dsimp only at hSw
        first | (go_simp; done) | (go_simp; with_reducible rfl)
      try simp only [Act.put, List.getElem_toArray, List.getElem_cons_zero, List.getElem_cons_succ, List.setIfInBounds_toArray, List.set_cons_zero, List.set_cons_succ]
      refine upto_take (i := 1) (v := ?_) rfl (by kernel_rfl) (by kernel_rfl) (by kernel_rfl) (by kernel_rfl) (fun _ _ _ h => h) (by rfl) hS ?_ ?_
      rotate_left
      · intro wS hSw
        try dsimp only at hSw
        first | (go_simp; done) | (go_simp; with_reducible rfl)
      try simp only [Act.put, List.getElem_toArray, List.getElem_cons_zero, List.getElem_cons_succ, List.setIfInBounds_toArray, List.set_cons_zero, List.set_cons_succ]
      refine upto_step (i := 2) (by kernel_rfl) rfl ?_
      intro K hK
      go_simp
      obtain ⟨W6, hW6⟩ : ∃ W6, W6 = ((W5.setCell ⟨N + 1, 0, none⟩ (.slice a5 L5 c5)).setCell ⟨N + 1, 1, none⟩ (.func (.func 77) #[] #[])).drew := ⟨_, rfl⟩
      have hm6 : Mod (fun b => b = N + 1) W5 W6 := by
        rw [hW6]
        exact ((Mod.of_set W5 ⟨N + 1, 0, none⟩ _).trans (Mod.of_set _ ⟨N + 1, 1, none⟩ _)).trans (Mod.of_below (Below.drew (Below.refl _ _)))
      have g0 : W6.cell? ⟨N + 1, 0, none⟩ = some (.slice a5 L5 c5) := by
        rw [hW6]
        exact (set_other (w := W5.setCell ⟨N + 1, 0, none⟩ (.slice a5 L5 c5)) (by simp)).trans (set_same e3)
      have g1 : W6.cell? ⟨N + 1, 1, none⟩ = some (.func (.func 77) #[] #[]) := by
        rw [hW6]
        exact set_same ((set_other (by simp)).trans e4)
      rw [← hW6]
      clear hW6
      refine hK _ _ (fun _ => ⟨hm6.cell e0 (by dsimp only; omega), hm6.cell e1 (by dsimp only; omega), hm6.cell e2 (by dsimp only; omega)⟩) ?_
      clear hK K hS
      try simp only [Act.put, List.getElem_toArray, List.getElem_cons_zero, List.getElem_cons_succ, List.setIfInBounds_toArray, List.set_cons_zero, List.set_cons_succ]
      refine upto_step (i := 3) (by kernel_rfl) rfl ?_
      intro K hK
      go_simp
      refine hK _ _ (fun h => absurd rfl h) ?_
      clear hK K
      try simp only [Act.put, List.getElem_toArray, List.getElem_cons_zero, List.getElem_cons_succ, List.setIfInBounds_toArray, List.set_cons_zero, List.set_cons_succ]
      refine upto_done (by kernel_rfl) ?_
      refine NoPanic.normal ?_
      have HD : Hid (∀ E ∈ (D :: ds), N + 4 ≤ E ∧ W6.heap[E]? = some (.deferred (some [])) ∧ (Value.slice a5 L5 c5).ownBlock ≠ some E) := fun E hD => by
        obtain ⟨p1, p2, p3⟩ := HB5.out.d E hD
        exact ⟨p1, (hm6.block E (Array.getElem?_eq_some_iff.1 p2).1 (by omega)).trans p2, p3⟩
      have HU := unmark_mod (D :: ds) W6
      have hz6 := hm6.size
      have y0 := HU.cell g0 (fun h => by have := (HD.out _ h).1; dsimp only at this; omega)
      have y1 := HU.cell g1 (fun h => by have := (HD.out _ h).1; dsimp only at this; omega)
      have HBL : Hid (Below N w (unmark W6 (D :: ds))) := by
        have h1 := HB5.out.b
        have h2 := HB5.out.s
        have h3 := HU.size
        refine ⟨HU.os.trans (hm6.os.trans h1.os), HU.tape.trans (hm6.tape.trans h1.tape), HU.output.trans (hm6.output.trans h1.output), by have := h1.size; omega, fun b hb => ?_⟩
        have hbl : b < W5.heap.size := by omega
        exact ((HU.block b (by omega) (fun h => by have := (HD.out _ h).1; omega)).trans (hm6.block b hbl (by omega))).trans (h1.block b hb)
      have HOW : Hid ((unmark W6 (D :: ds)).ownsRow (N + 4) 61 4 (.slice a5 L5 c5) L5 _) := HU.owns (hm6.owns o5 (fun b hb e => by have := (o5.lt b hb).1; omega)) (fun b hb h => (HD.out b h).2.2 hb)
      clear HU
      go_wp2
      refine leaves_marks (D :: ds) _ (fun D hD => (HD.out D hD).2.1) HB5.out.dd ?_
      refine ⟨.tuple #[.agg #[.slice a5 L5 c5, .func (.func 77) #[] #[]], .bool false], by simp [results, Try.results76, go_sem, y0, y1], ?_⟩
      refine ⟨.slice a5 L5 c5, false, rfl, ⟨_, _, _, rfl⟩, by rw [← HN.out]; exact HBL.out, ?_, ?_⟩
      · intro h; cases h
      · intro _
        have h1 : (flatTo xss k ++ pre) <+: flatTo xss m := by
          have h3 : ∀ n, k < n → n ≤ m → flatTo xss (k + 1) <+: flatTo xss n := by
            intro n
            induction n with
            | zero => intro h; omega
            | succ n ih =>
              intro h h'
              by_cases e : k = n
              · subst e; exact List.prefix_refl _
              · exact (ih (by omega) (by omega)).trans (List.prefix_append _ _)
          refine List.IsPrefix.trans ?_ (h3 m hlt (Nat.le_refl _))
          exact (List.prefix_append_right_inj _).2 hpre
        have h2 := length_putsL_pre (ys := []) h1
        omega
  · obtain rfl : k = m := by omega
    have hi5 : ¬ ((k : Int) < k) := by omega
    have hi6 : decide (k < k) = false := decide_eq_false hlt
    go_wp2
    obtain ⟨L5, hL5⟩ : ∃ L5, (putsL [] (flatTo xss k)).length = L5 := ⟨_, rfl⟩
    have HL5 : Hid ((putsL [] (flatTo xss k)).length = L5) := hL5
    have o5 := HB.out.l.own
    rw [hL5] at o5
    clear hL5
    obtain ⟨a5, c5, rfl⟩ := owns_form o5
    have e0 : W.cell? ⟨N + 1 + 1, 0, none⟩ = some (.slice a5 L5 c5) := HB.out.l.c0
    have e1 : W.cell? ⟨N + 1 + 1, 1, none⟩ = some (.func (.func 77) #[] #[]) := HB.out.l.c1
    have e2 : W.cell? ⟨N + 1 + 1 + 1, 0, none⟩ = some (.bool true) := HB.out.t
    have e3 := HB.out.r0
    obtain ⟨u1, e4⟩ := HB.out.r1
    have e5 := HB.out.rf
    have hs5 := HB.out.s
    refine wp_region_noPanic ?_
    refine region_upto (fun W' => W'.cell? ⟨N + 1 + 1, 0, none⟩ = some (.slice a5 L5 c5) ∧ W'.cell? ⟨N + 1 + 1, 1, none⟩ = some (.func (.func 77) #[] #[]) ∧ W'.cell? ⟨N + 1 + 1 + 1, 0, none⟩ = some (.bool true)) 3 (by kernel_rfl) ⟨e0, e1, e2⟩ (fun hS => ?_)
    refine upto_take (i := 0) (v := ?_) rfl (by kernel_rfl) (by kernel_rfl) (by kernel_rfl) (by kernel_rfl) (fun _ _ _ h => h) (by rfl) hS ?_ ?_
    rotate_left
    · intro wS hSw
      try dsimp only at hSw
      first | (go_simp; done) | (go_simp; with_reducible rfl)
    try simp only [Act.put, List.getElem_toArray, List.getElem_cons_zero, List.getElem_cons_succ, List.setIfInBounds_toArray, List.set_cons_zero, List.set_cons_succ]
    refine upto_take (i := 1) (v := ?_) rfl (by kernel_rfl) (by kernel_rfl) (by kernel_rfl) (by kernel_rfl) (fun _ _ _ h => h) (by rfl) hS ?_ ?_
    rotate_left
    · intro wS hSw
      try dsimp only at hSw
      first | (go_simp; done) | (go_simp; with_reducible rfl)
    try simp only [Act.put, List.getElem_toArray, List.getElem_cons_zero, List.getElem_cons_succ, List.setIfInBounds_toArray, List.set_cons_zero, List.set_cons_succ]
    refine upto_step (i := 2) (by kernel_rfl) rfl ?_
    intro K hK
    go_simp
    obtain ⟨W6, hW6⟩ : ∃ W6, W6 = ((W.setCell ⟨N + 1, 0, none⟩ (.slice a5 L5 c5)).setCell ⟨N + 1, 1, none⟩ (.func (.func 77) #[] #[])).drew := ⟨_, rfl⟩
    have hm6 : Mod (fun b => b = N + 1) W W6 := by
      rw [hW6]
      exact ((Mod.of_set W ⟨N + 1, 0, none⟩ _).trans (Mod.of_set _ ⟨N + 1, 1, none⟩ _)).trans (Mod.of_below (Below.drew (Below.refl _ _)))
    have g0 : W6.cell? ⟨N + 1, 0, none⟩ = some (.slice a5 L5 c5) := by
      rw [hW6]
      exact (set_other (w := W.setCell ⟨N + 1, 0, none⟩ (.slice a5 L5 c5)) (by simp)).trans (set_same e3)
    have g1 : W6.cell? ⟨N + 1, 1, none⟩ = some (.func (.func 77) #[] #[]) := by
      rw [hW6]
      exact set_same ((set_other (by simp)).trans e4)
    rw [← hW6]
    clear hW6
    refine hK _ _ (fun _ => ⟨hm6.cell e0 (by dsimp only; omega), hm6.cell e1 (by dsimp only; omega), hm6.cell e2 (by dsimp only; omega)⟩) ?_
    clear hK K hS
    try simp only [Act.put, List.getElem_toArray, List.getElem_cons_zero, List.getElem_cons_succ, List.setIfInBounds_toArray, List.set_cons_zero, List.set_cons_succ]
    refine upto_step (i := 3) (by kernel_rfl) rfl ?_
    intro K hK
    go_simp
    refine hK _ _ (fun h => absurd rfl h) ?_
    clear hK K
    try simp only [Act.put, List.getElem_toArray, List.getElem_cons_zero, List.getElem_cons_succ, List.setIfInBounds_toArray, List.set_cons_zero, List.set_cons_succ]
    refine upto_done (by kernel_rfl) ?_
    refine NoPanic.normal ?_
    have HD : Hid (∀ D ∈ ds, N + 4 ≤ D ∧ W6.heap[D]? = some (.deferred (some [])) ∧ (Value.slice a5 L5 c5).ownBlock ≠ some D) := fun D hD => by
      obtain ⟨p1, p2, p3⟩ := HB.out.d D hD
      exact ⟨p1, (hm6.block D (Array.getElem?_eq_some_iff.1 p2).1 (by omega)).trans p2, p3⟩
    have HU := unmark_mod ds W6
    have hz6 := hm6.size
    have y0 := HU.cell g0 (fun h => by have := (HD.out _ h).1; dsimp only at this; omega)
    have y1 := HU.cell g1 (fun h => by have := (HD.out _ h).1; dsimp only at this; omega)
    have HBL : Hid (Below N w (unmark W6 ds)) := by
      have h1 := HB.out.b
      have h2 := HB.out.s
      have h3 := HU.size
      refine ⟨HU.os.trans (hm6.os.trans h1.os), HU.tape.trans (hm6.tape.trans h1.tape), HU.output.trans (hm6.output.trans h1.output), by have := h1.size; omega, fun b hb => ?_⟩
      have hbl : b < W.heap.size := by omega
      exact ((HU.block b (by omega) (fun h => by have := (HD.out _ h).1; omega)).trans (hm6.block b hbl (by omega))).trans (h1.block b hb)
    have HOW : Hid ((unmark W6 ds).ownsRow (N + 4) 61 4 (.slice a5 L5 c5) L5 _) := HU.owns (hm6.owns o5 (fun b hb e => by have := (o5.lt b hb).1; omega)) (fun b hb h => (HD.out b h).2.2 hb)
    clear HU
    go_wp2
    refine leaves_marks ds _ (fun D hD => (HD.out D hD).2.1) HB.out.dd ?_
    refine ⟨.tuple #[.agg #[.slice a5 L5 c5, .func (.func 77) #[] #[]], .bool true], by simp [results, Try.results76, go_sem, y0, y1], ?_⟩
    refine ⟨.slice a5 L5 c5, true, rfl, ⟨_, _, _, rfl⟩, by rw [← HN.out]; exact HBL.out, ?_, ?_⟩
    · intro _
      rw [HL5.out]
      exact ⟨owns_base HOW.out (by have := HN.out; omega), by have := HL5.out; omega⟩
    · intro h; cases h
end Go.Proofs.Yteebglgbeijolaa

