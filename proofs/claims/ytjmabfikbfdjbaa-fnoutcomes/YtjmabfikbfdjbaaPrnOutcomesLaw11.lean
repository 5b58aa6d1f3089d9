import Derived.Test.YtjmabfikbfdjbaaPrnOutcomesLaw7
import Derived.Test.YtjmabfikbfdjbaaPrnOutcomesLaw3
import Derived.Shelf.Abstract
import Derived.Deep.AppendLies
import Derived.Test.YtjmabfikbfdjbaaPrnOutcomesLaw5
import Derived.Test.YtjmabfikbfdjbaaPrnOutcomesLaw8
import Derived.Test.YtjmabfikbfdjbaaPrnOutcomesLaw10
import Derived.Test.YtjmabfikbfdjbaaPrnOutcomesLaw4
import Derived.BigQuiet
import Derived.Deep.QuietTactic
import Derived.Deep.RegionHeld3

/-
  slices.BinarySearchFunc over slots; where a slot stands.
-/
set_option linter.unusedVariables false
set_option linter.unusedSimpArgs false
namespace Go.Proofs.Ytjmabfikbfdjbaa
open Go.RowKit
set_option linter.unusedSectionVars false
variable [DecidableEq Vot] [Inhabited Vot] [DecidableEq Slt] [Inhabited Slt] [DecidableEq SltR] [Inhabited SltR] [DecidableEq Bal] [Inhabited Bal] [DecidableEq Ledg] [Inhabited Ledg] [DecidableEq Leg] [Inhabited Leg] [DecidableEq Acc] [Inhabited Acc] [DecidableEq AccR] [Inhabited AccR] [DecidableEq AccsR] [Inhabited AccsR] [DecidableEq SltsR] [Inhabited SltsR]
attribute [local go_sem ↓] Go.wp_at_zero Go.wp_at_succ

theorem sltKeep2 {w w' : World} {b o b' o' : Nat} {x y : Slt} {u v : Value} (hb : Below w.heap.size w w') (h : w.cell? ⟨b, o, none⟩ = some (.int .i64 x.con) ∧ w.cell? ⟨b, o + 1, none⟩ = some (.int .i64 x.sh) ∧ w.cell? ⟨b, o + 2, none⟩ = some (.int .i64 x.pr) ∧ w.cell? ⟨b, o + 3, none⟩ = some (.int .i64 x.lb) ∧ w.cell? ⟨b, o + 4, none⟩ = some (.int .i64 x.lv) ∧ w.cell? ⟨b, o + 5, none⟩ = some (u)) (h' : w.cell? ⟨b', o', none⟩ = some (.int .i64 y.con) ∧ w.cell? ⟨b', o' + 1, none⟩ = some (.int .i64 y.sh) ∧ w.cell? ⟨b', o' + 2, none⟩ = some (.int .i64 y.pr) ∧ w.cell? ⟨b', o' + 3, none⟩ = some (.int .i64 y.lb) ∧ w.cell? ⟨b', o' + 4, none⟩ = some (.int .i64 y.lv) ∧ w.cell? ⟨b', o' + 5, none⟩ = some (v)) :
    Below w.heap.size w w' ∧ (w'.cell? ⟨b, o, none⟩ = some (.int .i64 x.con) ∧ w'.cell? ⟨b, o + 1, none⟩ = some (.int .i64 x.sh) ∧ w'.cell? ⟨b, o + 2, none⟩ = some (.int .i64 x.pr) ∧ w'.cell? ⟨b, o + 3, none⟩ = some (.int .i64 x.lb) ∧ w'.cell? ⟨b, o + 4, none⟩ = some (.int .i64 x.lv) ∧ w'.cell? ⟨b, o + 5, none⟩ = some (u)) ∧ (w'.cell? ⟨b', o', none⟩ = some (.int .i64 y.con) ∧ w'.cell? ⟨b', o' + 1, none⟩ = some (.int .i64 y.sh) ∧ w'.cell? ⟨b', o' + 2, none⟩ = some (.int .i64 y.pr) ∧ w'.cell? ⟨b', o' + 3, none⟩ = some (.int .i64 y.lb) ∧ w'.cell? ⟨b', o' + 4, none⟩ = some (.int .i64 y.lv) ∧ w'.cell? ⟨b', o' + 5, none⟩ = some (v)) :=
  ⟨hb, ⟨cell_keep hb h.1, cell_keep hb h.2.1, cell_keep hb h.2.2.1, cell_keep hb h.2.2.2.1, cell_keep hb h.2.2.2.2.1, cell_keep hb h.2.2.2.2.2⟩, ⟨cell_keep hb h'.1, cell_keep hb h'.2.1, cell_keep hb h'.2.2.1, cell_keep hb h'.2.2.2.1, cell_keep hb h'.2.2.2.2.1, cell_keep hb h'.2.2.2.2.2⟩⟩
theorem slts_at {w : World} {a : Option Addr} {xs : List Slt} {n k : Nat} (hx : ∀ i, i < n → ∃ b o u, a = some ⟨b, o, none⟩ ∧ (lvSlt u).length = 6 ∧ (∀ j, j < 6 → w.cell? ⟨b, o + i * 6 + j, none⟩ = (lvSlt u)[j]?) ∧ sltR.V w u (xs.getD i default)) (hk : k < n) :
    ∃ b o p q, a = some ⟨b, o, none⟩ ∧ (w.cell? ⟨b, o + k * 6, none⟩ = some (.int .i64 (xs.getD k default).con) ∧ w.cell? ⟨b, o + k * 6 + 1, none⟩ = some (.int .i64 (xs.getD k default).sh) ∧ w.cell? ⟨b, o + k * 6 + 2, none⟩ = some (.int .i64 (xs.getD k default).pr) ∧ w.cell? ⟨b, o + k * 6 + 3, none⟩ = some (.int .i64 (xs.getD k default).lb) ∧ w.cell? ⟨b, o + k * 6 + 4, none⟩ = some (.int .i64 (xs.getD k default).lv) ∧ w.cell? ⟨b, o + k * 6 + 5, none⟩ = some (.slice p (xs.getD k default).cast.length q)) ∧ sltR.V w (.agg #[.int .i64 (xs.getD k default).con, .int .i64 (xs.getD k default).sh, .int .i64 (xs.getD k default).pr, .int .i64 (xs.getD k default).lb, .int .i64 (xs.getD k default).lv, .slice p (xs.getD k default).cast.length q]) (xs.getD k default) := by
  obtain ⟨b, o, u, e, _, p, hv⟩ := hx k hk
  have hV := hv
  obtain ⟨s, rfl, hc⟩ := hv
  obtain ⟨au, cu, rfl⟩ := vots_form hc
  exact ⟨b, o, au, cu, e, ⟨p 0 (by omega), p 1 (by omega), p 2 (by omega), p 3 (by omega), p 4 (by omega), p 5 (by omega)⟩, hV⟩
set_option maxRecDepth 20000 in
set_option maxHeartbeats 8000000 in
theorem bsS_any (x : Value) (xs : List Slt) (q : Slt) (uq : Value) (w : World) (hx : sltsR.V w x xs) (hn : xs.length ≤ 1048576)
    (hmono : ∀ a b, a ≤ b → b < xs.length → cmpS (xs.getD b default) q < 0 → cmpS (xs.getD a default) q < 0) :
    Calls Try.prog 115 #[x, .agg #[.int .i64 q.con, .int .i64 q.sh, .int .i64 q.pr, .int .i64 q.lb, .int .i64 q.lv, uq], .func (.func 94) #[] #[]] w fun e w' => ∃ i : Nat, i ≤ xs.length ∧ e = .returned (.tuple #[.int .i64 i, .bool (decide (i < xs.length ∧ cmpS (xs.getD i default) q = 0))]) ∧
      (∀ k, k < i → cmpS (xs.getD k default) q < 0) ∧ (∀ k, i ≤ k → k < xs.length → 0 ≤ cmpS (xs.getD k default) q) ∧ Below w.heap.size w w' := by
  obtain ⟨ax, cx, rfl, hcx, hmx, hx⟩ := hx
  unfold maxLen at hmx
  have HMO : Hid (∀ a b, a ≤ b → b < xs.length → cmpS (xs.getD b default) q < 0 → cmpS (xs.getD a default) q < 0) := hmono
  clear hmono
  have hX : Hid (∀ k, k < xs.length → ∃ b o p q, ax = some ⟨b, o, none⟩ ∧ (w.cell? ⟨b, o + k * 6, none⟩ = some (.int .i64 (xs.getD k default).con) ∧ w.cell? ⟨b, o + k * 6 + 1, none⟩ = some (.int .i64 (xs.getD k default).sh) ∧ w.cell? ⟨b, o + k * 6 + 2, none⟩ = some (.int .i64 (xs.getD k default).pr) ∧ w.cell? ⟨b, o + k * 6 + 3, none⟩ = some (.int .i64 (xs.getD k default).lb) ∧ w.cell? ⟨b, o + k * 6 + 4, none⟩ = some (.int .i64 (xs.getD k default).lv) ∧ w.cell? ⟨b, o + k * 6 + 5, none⟩ = some (.slice p (xs.getD k default).cast.length q)) ∧ sltR.V w (.agg #[.int .i64 (xs.getD k default).con, .int .i64 (xs.getD k default).sh, .int .i64 (xs.getD k default).pr, .int .i64 (xs.getD k default).lb, .int .i64 (xs.getD k default).lv, .slice p (xs.getD k default).cast.length q]) (xs.getD k default)) := fun k hk => slts_at hx hk
  clear hx
  generalize hN : xs.length = n at *
  clear hN
  have eg := enters_of Try.func94 (by kernel_rfl) rfl
  go_enter Try.func115, Try.ntmps115
  go_wp2
  go_loopw [9, 10] (fun a b W => ∃ i j : Nat, i ≤ j ∧ j ≤ n ∧ a = .int .i64 i ∧ b = .int .i64 j ∧ Hid (∀ k, k < i → cmpS (xs.getD k default) q < 0) ∧ Hid (∀ k, j ≤ k → k < n → 0 ≤ cmpS (xs.getD k default) q) ∧ (W.cell? ⟨w.heap.size, 0, none⟩ = some (.int .i64 q.con) ∧ W.cell? ⟨w.heap.size, 0 + 1, none⟩ = some (.int .i64 q.sh) ∧ W.cell? ⟨w.heap.size, 0 + 2, none⟩ = some (.int .i64 q.pr) ∧ W.cell? ⟨w.heap.size, 0 + 3, none⟩ = some (.int .i64 q.lb) ∧ W.cell? ⟨w.heap.size, 0 + 4, none⟩ = some (.int .i64 q.lv) ∧ W.cell? ⟨w.heap.size, 0 + 5, none⟩ = some (uq)) ∧ Below w.heap.size w W) (fun a b _ => (intOf b).toNat - (intOf a).toNat)
  case atStart => exact ⟨0, n, Nat.zero_le _, Nat.le_refl _, rfl, rfl, fun k h => absurd h (Nat.not_lt_zero _), fun k h1 h2 => by omega, by simp [go_sem], balloc (Below.refl _ _) _⟩
  case round =>
    obtain ⟨i, j, hij, hjn, rfl, rfl, HA, HB, hq, hbl⟩ := hrel
    by_cases hlt : i < j
    · have hlt' : (i : Int) < j := by omega
      go_wp2
      obtain ⟨m, hm⟩ : ∃ m : Nat, ((i : Int) + j) / 2 = (m : Int) := ⟨(i + j) / 2, by omega⟩
      have hm1 : i ≤ m := by omega
      have hm2 : m < j := by omega
      rw [hm]
      clear hm
      obtain ⟨b, o, pp, qq, rfl, hc, _⟩ := hX.out m (by omega)
      obtain ⟨l, hl⟩ : ∃ l, l = xs.getD m default := ⟨_, rfl⟩
      rw [← hl] at hc
      have HL : Hid (l = xs.getD m default) := hl
      clear hl hX
      have r1 := (sltKeep2 hbl hc hc).2.1
      have hi4 : (0 : Int) ≤ m := by omega
      have hi5 : (m : Int) < n := by omega
      go_region_held3 (fun W => Below wr.heap.size wr W ∧ (W.cell? ⟨b, o + m * 6, none⟩ = some (.int .i64 l.con) ∧ W.cell? ⟨b, o + m * 6 + 1, none⟩ = some (.int .i64 l.sh) ∧ W.cell? ⟨b, o + m * 6 + 2, none⟩ = some (.int .i64 l.pr) ∧ W.cell? ⟨b, o + m * 6 + 3, none⟩ = some (.int .i64 l.lb) ∧ W.cell? ⟨b, o + m * 6 + 4, none⟩ = some (.int .i64 l.lv) ∧ W.cell? ⟨b, o + m * 6 + 5, none⟩ = some (.slice pp l.cast.length qq)) ∧ (W.cell? ⟨w.heap.size, 0, none⟩ = some (.int .i64 q.con) ∧ W.cell? ⟨w.heap.size, 0 + 1, none⟩ = some (.int .i64 q.sh) ∧ W.cell? ⟨w.heap.size, 0 + 2, none⟩ = some (.int .i64 q.pr) ∧ W.cell? ⟨w.heap.size, 0 + 3, none⟩ = some (.int .i64 q.lb) ∧ W.cell? ⟨w.heap.size, 0 + 4, none⟩ = some (.int .i64 q.lv) ∧ W.cell? ⟨w.heap.size, 0 + 5, none⟩ = some (uq))) ((refine sltKeep2 ?_ r1 hq; repeat (first | exact Below.refl _ _ | assumption | refine Below.drew ?_ | refine balloc ?_ _ | refine bstep ?_ (by assumption))))
        (first | (go_at_call 94; refine (compareSlots_any l q _ _ _).mono ?_; rintro e wa ⟨rfl, hb1⟩))
      rename_i hH
      have hB := bstep hbl hH.1
      have hq2 := hH.2.2
      clear hH
      by_cases hneg : cmpS l q < 0
      · have hd : decide (cmpS l q < 0) = true := decide_eq_true hneg
        have HA2 : Hid (∀ k, k < m + 1 → cmpS (xs.getD k default) q < 0) := fun k hk => HMO.out k m (by omega) (by omega) (by rw [← HL.out]; exact hneg)
        go_wp2
        refine ⟨⟨m + 1, j, by omega, hjn, by go_num, rfl, HA2, HB, hq2, hB⟩, ?_⟩
        simp [intOf]
        omega
      · have hd : decide (cmpS l q < 0) = false := decide_eq_false hneg
        have HB2 : Hid (∀ k, m ≤ k → k < n → 0 ≤ cmpS (xs.getD k default) q) := fun k hk hkn => by
          by_cases h : cmpS (xs.getD k default) q < 0
          · have := HMO.out m k hk hkn h
            rw [← HL.out] at this
            exact absurd this hneg
          · omega
        go_wp2
        refine ⟨⟨i, m, hm1, by omega, rfl, rfl, HA, HB2, hq2, hB⟩, ?_⟩
        simp [intOf]
        omega
    · obtain rfl : i = j := by omega
      have hi4 : (0 : Int) ≤ i := by omega
      have hnl : ¬ (i : Int) < i := by omega
      by_cases hin : i < n
      · obtain ⟨b, o, pp, qq, rfl, hc, _⟩ := hX.out i hin
        obtain ⟨l, hl⟩ : ∃ l, l = xs.getD i default := ⟨_, rfl⟩
        rw [← hl] at hc
        have HL : Hid (l = xs.getD i default) := hl
        clear hl hX
        have r1 := (sltKeep2 hbl hc hc).2.1
        have hi5 : (i : Int) < n := by omega
        have hi6 : decide (i < n) = true := decide_eq_true hin
        go_wp2
        go_region_held3 (fun W => Below wr.heap.size wr W ∧ (W.cell? ⟨b, o + i * 6, none⟩ = some (.int .i64 l.con) ∧ W.cell? ⟨b, o + i * 6 + 1, none⟩ = some (.int .i64 l.sh) ∧ W.cell? ⟨b, o + i * 6 + 2, none⟩ = some (.int .i64 l.pr) ∧ W.cell? ⟨b, o + i * 6 + 3, none⟩ = some (.int .i64 l.lb) ∧ W.cell? ⟨b, o + i * 6 + 4, none⟩ = some (.int .i64 l.lv) ∧ W.cell? ⟨b, o + i * 6 + 5, none⟩ = some (.slice pp l.cast.length qq)) ∧ (W.cell? ⟨w.heap.size, 0, none⟩ = some (.int .i64 q.con) ∧ W.cell? ⟨w.heap.size, 0 + 1, none⟩ = some (.int .i64 q.sh) ∧ W.cell? ⟨w.heap.size, 0 + 2, none⟩ = some (.int .i64 q.pr) ∧ W.cell? ⟨w.heap.size, 0 + 3, none⟩ = some (.int .i64 q.lb) ∧ W.cell? ⟨w.heap.size, 0 + 4, none⟩ = some (.int .i64 q.lv) ∧ W.cell? ⟨w.heap.size, 0 + 5, none⟩ = some (uq))) ((refine sltKeep2 ?_ r1 hq; repeat (first | exact Below.refl _ _ | assumption | refine Below.drew ?_ | refine balloc ?_ _ | refine bstep ?_ (by assumption))))
          (first | (go_at_call 94; refine (compareSlots_any l q _ _ _).mono ?_; rintro e wa ⟨rfl, hb1⟩))
        rename_i hH
        have hB := bstep hbl hH.1
        clear hH
        go_wp2
        refine bodyPost_ret (v := .tuple #[.int .i64 i, .bool (cmpS l q == 0)]) (by simp [results, Try.results115, go_sem]) rfl ?_
        refine ⟨i, hjn, ?_, HA.out, HB.out, hB⟩
        rw [← HL.out]
        have e : (cmpS l q == 0) = decide (i < n ∧ cmpS l q = 0) := by
          rw [Bool.eq_iff_iff]
          simp [hin]
        rw [e]
      · have hi5 : ¬ (i : Int) < n := by omega
        have hi6 : decide (i < n) = false := decide_eq_false hin
        go_wp2
        go_quiet (fail)
        go_wp2
        refine bodyPost_ret (v := .tuple #[.int .i64 i, .bool false]) (by simp [results, Try.results115, go_sem]) rfl ?_
        refine ⟨i, hjn, ?_, HA.out, HB.out, bdrewN hbl _⟩
        simp [hin]
def PlE (xs : List Slt) (q : Slt) (w : World) (e : Ending) (w' : World) : Prop :=
  ∃ i : Nat, i ≤ xs.length ∧ e = .returned (.tuple #[.int .i64 i, .bool (decide (i < xs.length ∧ cmpS (xs.getD i default) q = 0))]) ∧
    (∀ k, k < i → cmpS (xs.getD k default) q < 0) ∧ (∀ k, i ≤ k → k < xs.length → 0 ≤ cmpS (xs.getD k default) q) ∧ Below w.heap.size w w'
theorem accOk_mono {xs : List Slt} (h : AccOk xs) (q : Slt) : ∀ a b, a ≤ b → b < xs.length → cmpS (xs.getD b default) q < 0 → cmpS (xs.getD a default) q < 0 := by
  intro a b hab hb hc
  rcases Nat.eq_or_lt_of_le hab with rfl | hlt
  · exact hc
  · have h1 := aheadS_iff.1 (h.ord a b hlt hb)
    rw [cmpS_lt] at hc ⊢
    omega
set_option maxHeartbeats 1000000 in
theorem placeIn_any (x : Value) (d : Acc) (q : Slt) (uq : Value) (w : World) (hx : accR.V w x d) (hok : AccOk d.slots) :
    Calls Try.prog 95 #[x, .agg #[.int .i64 q.con, .int .i64 q.sh, .int .i64 q.pr, .int .i64 q.lb, .int .i64 q.lv, uq]] w fun e w' => PlE d.slots q w e w' := by
  obtain ⟨u1, rfl, hx⟩ := hx
  obtain ⟨xs⟩ := d
  dsimp only at hx hok ⊢
  have hl := hok.len
  have HP : Hid (∀ W, Below w.heap.size w W → Calls Try.prog 115 #[u1, .agg #[.int .i64 q.con, .int .i64 q.sh, .int .i64 q.pr, .int .i64 q.lb, .int .i64 q.lv, uq], .func (.func 94) #[] #[]] W fun e w' => PlE xs q W e w') := fun W hW => bsS_any u1 xs q uq W (sltsR.below hx hW) (by omega) (accOk_mono hok q)
  obtain ⟨au, cu, rfl⟩ := slts_form hx
  clear hx
  go_enter Try.func95, Try.ntmps95
  go_wp2_with fail
  refine (HP.out _ (by (repeat (first | exact Below.refl _ _ | assumption | refine Below.drew ?_ | refine balloc ?_ _ | refine bset ?_ (by simp; omega) _ | refine bset ?_ (by simp) _ | refine bstep ?_ (by assumption))))).mono ?_
  rintro e w1 ⟨i, hi, rfl, h1, h2, hb1⟩
  have hB1 : Below w.heap.size w w1 := by (repeat (first | exact Below.refl _ _ | assumption | refine Below.drew ?_ | refine balloc ?_ _ | refine bset ?_ (by simp; omega) _ | refine bset ?_ (by simp) _ | refine bstep ?_ (by assumption)))
  have HA : Hid (∀ k, k < i → cmpS (xs.getD k default) q < 0) := h1
  have HB : Hid (∀ k, i ≤ k → k < xs.length → 0 ≤ cmpS (xs.getD k default) q) := h2
  clear h1 h2
  generalize hD : decide (i < xs.length ∧ cmpS (xs.getD i default) q = 0) = D
  go_wp2
  refine bodyPost_ret (v := .tuple #[.int .i64 i, .bool D]) (by simp [results, Try.results95, go_sem]) rfl ?_
  exact ⟨i, hi, by rw [hD], HA.out, HB.out, hB1⟩
end Go.Proofs.Ytjmabfikbfdjbaa

/-
  AcceptSlot, the specification's.
-/
set_option linter.unusedSimpArgs false
set_option linter.unusedVariables false
namespace Go.Proofs.Ytjmabfikbfdjbaa
open Go.RowKit
set_option linter.unusedSectionVars false
variable [DecidableEq Vot] [Inhabited Vot] [DecidableEq Slt] [Inhabited Slt] [DecidableEq SltR] [Inhabited SltR] [DecidableEq Bal] [Inhabited Bal] [DecidableEq Ledg] [Inhabited Ledg] [DecidableEq Leg] [Inhabited Leg]
attribute [local go_sem ↓] Go.wp_at_zero Go.wp_at_succ

theorem heap_new2 (w : World) (o o' : Obj) : ((w.alloc o).alloc o').heap[w.heap.size]? = some o := by
  show ((w.heap.push o).push o')[w.heap.size]? = some o
  simp [Array.getElem?_push]
theorem own_other {w : World} {base e size : Nat} {v : Value} {n : Nat} {xs : List Value} {k : Nat} {c : Array Value} {t : Nat} {f : Nat × Nat} (h : w.ownsRow base e size v n xs) (hb : w.heap[k]? = some (.cells c t f)) (hne : ¬ t = e) : ¬ v.ownBlock = some k := by
  intro he
  rcases h.2 with ⟨rfl, _⟩ | ⟨g, cap, cur, rfl, _, hg, _⟩
  · simp [Value.ownBlock] at he
  · simp only [Value.ownBlock, Option.some.injEq] at he
    subst he
    rw [hb] at hg
    simp at hg
    exact hne hg.2.1
theorem Rep.setN {α : Type} (R : Rep α) {w : World} {base : Nat} {F : Nat → Prop} {v : Value} {x : α} (h : R.O w base F v x) {p : Addr} (u : Value) (hp : ¬ F p.block) : R.O (w.setCell p u) base F v x :=
  R.mod h (Mod.of_set w p u) (fun b hb he => hp (he ▸ hb))
end Go.Proofs.Ytjmabfikbfdjbaa

/-
  An acceptor copied, the program's.
-/
set_option linter.unusedSimpArgs false
set_option linter.unusedVariables false
namespace Go.Proofs.Ytjmabfikbfdjbaa
open Go.RowKit
set_option linter.unusedSectionVars false
variable [DecidableEq Vot] [Inhabited Vot] [DecidableEq Slt] [Inhabited Slt] [DecidableEq Bal] [Inhabited Bal] [DecidableEq Ledg] [Inhabited Ledg] [DecidableEq Leg] [Inhabited Leg] [DecidableEq Acc] [Inhabited Acc] [DecidableEq SltR] [Inhabited SltR] [DecidableEq AccR] [Inhabited AccR] [DecidableEq AccsR] [Inhabited AccsR] [DecidableEq SltsR] [Inhabited SltsR]
attribute [local go_sem ↓] Go.wp_at_zero Go.wp_at_succ

theorem slts_nil (w : World) (base : Nat) : sltsR.O w base (fun _ => False) (.slice none 0 0) [] :=
  ⟨[], fun _ => default, fun _ _ => False, ⟨World.ownsRow_nil _ _ _ _, fun i hi => absurd hi (Nat.not_lt_zero _), fun i hi => absurd hi (Nat.not_lt_zero _), fun i hi => absurd hi (Nat.not_lt_zero _), fun i hi => absurd hi (Nat.not_lt_zero _), fun i j hi => absurd hi (Nat.not_lt_zero _)⟩, fun b => ⟨fun h => h.elim, fun h => h.elim (fun h => noOwn h) (fun ⟨i, hi, _⟩ => absurd hi (Nat.not_lt_zero _))⟩⟩
set_option maxRecDepth 20000 in
set_option maxHeartbeats 4000000 in
theorem copiedAcc_u (x : Value) (d : Acc) (w : World) (hx : accR.V w x d) (hn : d.slots.length ≤ 1048576) (hw : ∀ k, k < d.slots.length → (d.slots.getD k default).cast.length ≤ 1048576) :
    Calls Try.prog 59 #[x] w fun e w' => ∃ v F, e = .returned v ∧ accR.O w' w.heap.size F v d ∧ Below w.heap.size w w' := by
  obtain ⟨u1, rfl, hx⟩ := hx
  obtain ⟨xs⟩ := d
  dsimp only at hx hw hn ⊢
  obtain ⟨au, cu, rfl, hcx, hmx, hx⟩ := hx
  unfold maxLen at hmx
  have hXs : Hid (∀ k, k < xs.length → ∃ b o p q, au = some ⟨b, o, none⟩ ∧ (w.cell? ⟨b, o + k * 6, none⟩ = some (.int .i64 (xs.getD k default).con) ∧ w.cell? ⟨b, o + k * 6 + 1, none⟩ = some (.int .i64 (xs.getD k default).sh) ∧ w.cell? ⟨b, o + k * 6 + 2, none⟩ = some (.int .i64 (xs.getD k default).pr) ∧ w.cell? ⟨b, o + k * 6 + 3, none⟩ = some (.int .i64 (xs.getD k default).lb) ∧ w.cell? ⟨b, o + k * 6 + 4, none⟩ = some (.int .i64 (xs.getD k default).lv) ∧ w.cell? ⟨b, o + k * 6 + 5, none⟩ = some (.slice p (xs.getD k default).cast.length q)) ∧ sltR.V w (.agg #[.int .i64 (xs.getD k default).con, .int .i64 (xs.getD k default).sh, .int .i64 (xs.getD k default).pr, .int .i64 (xs.getD k default).lb, .int .i64 (xs.getD k default).lv, .slice p (xs.getD k default).cast.length q]) (xs.getD k default)) := fun k hk => slts_at hx hk
  have HW : Hid (∀ k, k < xs.length → (xs.getD k default).cast.length ≤ 1048576) := hw
  clear hx hw
  obtain ⟨n, hn'⟩ : ∃ n, n = xs.length := ⟨_, rfl⟩
  have HN : Hid (xs.length = n) := hn'.symm
  rw [← hn'] at hcx hXs HW hn ⊢
  clear hn'
  have hs0 : ∃ a c F, (Value.slice none 0 0) = .slice a 0 c ∧ sltsR.O ((w.alloc (.cells #[.slice au n cu] 73)).alloc (.cells #[.slice none 0 0] 73)) (w.heap.size + 2) F (.slice a 0 c) (xs.take 0) := ⟨none, 0, _, rfl, slts_nil _ _⟩
  go_enter Try.func59, Try.ntmps59
  go_wp2
  go_loopw [3, 9] (fun s i w' => ∃ k : Nat, k ≤ n ∧ i = .int .i64 k ∧ (∃ a c F, s = .slice a k c ∧ sltsR.O w' (w.heap.size + 2) F (.slice a k c) (xs.take k)) ∧ (w'.cell? ⟨w.heap.size, 0, none⟩ = some (.slice au n cu) ∧ w'.cell? ⟨w.heap.size + 1, 0, none⟩ = some (.slice none 0 0)) ∧ (∀ o, w'.frozen? ⟨w.heap.size + 1, o, none⟩ = false) ∧ Below w.heap.size w w') (fun s i _ => n - (intOf i).toNat)
  case atStart => exact ⟨0, Nat.zero_le _, rfl, hs0, by simp [go_sem], fun o => by simp [go_sem], by (repeat (first | exact Below.refl _ _ | assumption | refine Below.drew ?_ | refine balloc ?_ _ | refine bset ?_ (by simp; omega) _ | refine bset ?_ (by simp) _ | refine bstep ?_ (by assumption)))⟩
  case round =>
    clear hs0
    obtain ⟨k, hk, rfl, ⟨as_, cs_, F, rfl, ho⟩, ⟨y0, r0⟩, rf, hbl⟩ := hrel
    have HO : Hid (sltsR.O wr (w.heap.size + 2) F (.slice as_ k cs_) (xs.take k)) := ho
    clear ho
    have zr : w.heap.size + 1 < wr.heap.size := World.block_lt_of_cell? wr _ r0
    by_cases hlt : k < n
    · obtain ⟨b, o, pp, qq, rfl, hc, hV⟩ := hXs.out k hlt
      have hcw := HW.out k hlt
      obtain ⟨l, hl⟩ : ∃ l, l = xs.getD k default := ⟨_, rfl⟩
      rw [← hl] at hc hV hcw
      have HL : Hid (xs.take (k + 1) = xs.take k ++ [l]) := by
        show _ = _
        rw [List.take_succ_eq_append_getElem (by rw [HN.out]; exact hlt), hl]
        simp [List.getD, show k < xs.length by rw [HN.out]; exact hlt]
      clear hl
      obtain ⟨g0, g1, g2, g3, g4, g5⟩ := (sltKeep2 hbl hc hc).2.1
      clear hc
      have zb : b < wr.heap.size := World.block_lt_of_cell? wr _ g0
      have HCp : Hid (∀ W, Below w.heap.size w W → Calls Try.prog 90 #[.agg #[.int .i64 l.con, .int .i64 l.sh, .int .i64 l.pr, .int .i64 l.lb, .int .i64 l.lv, .slice pp l.cast.length qq]] W fun e w' => ∃ v F, e = .returned v ∧ sltR.O w' W.heap.size F v l ∧ Below W.heap.size W w') := fun W hW => copied8_u _ l W (sltR.below hV hW) hcw
      clear hV
      go_wp2_with fail
      refine (HCp.out _ (by (repeat (first | exact Below.refl _ _ | assumption | refine Below.drew ?_ | refine balloc ?_ _ | refine bset ?_ (by simp; omega) _ | refine bset ?_ (by simp) _ | refine bstep ?_ (by assumption))))).mono ?_
      rintro e w2 ⟨v2, F2, rfl, o2, hb2⟩
      obtain ⟨a2, c2, rfl, _⟩ := slt_cells o2
      have hz2 := hb2.size
      simp at hz2
      have hB2 : Below wr.heap.size wr w2 := by (repeat (first | exact Below.refl _ _ | assumption | refine Below.drew ?_ | refine balloc ?_ _ | refine bset ?_ (by simp; omega) _ | refine bset ?_ (by simp) _ | refine bstep ?_ (by assumption)))
      have HO2 : Hid (sltsR.O w2 (w.heap.size + 2) F (.slice as_ k cs_) (xs.take k)) := sltsR.keep HO.out hB2
      have HFl : Hid (∀ b, F b → b < wr.heap.size) := fun b hb => (sltsR.rng HO.out b hb).2
      have HF2 : Hid (∀ b, F2 b → wr.heap.size + 1 ≤ b) := fun b hb => by have := (sltR.rng o2 b hb).1; simpa using this
      have HU : Hid (sltR.O w2 (w.heap.size + 2) F2 (.agg #[.int .i64 l.con, .int .i64 l.sh, .int .i64 l.pr, .int .i64 l.lb, .int .i64 l.lv, .slice a2 l.cast.length c2]) l) := sltR.base o2 (by simp; omega)
      replace y0 := cell_keep hB2 y0
      replace r0 := cell_keep hB2 r0
      replace rf : ∀ o, w2.frozen? ⟨w.heap.size + 1, o, none⟩ = false := fun o => by rw [(bcell hB2).2 _ _ (by omega)]; exact rf o
      have hB3 : Below w.heap.size w w2 := bstep hbl hB2
      clear hb2 o2 HCp HO g0 g1 g2 g3 g4 g5 hB2
      go_wp2_with (at_builtin; refine wpl_appS _ rfl _ _ rfl (w.heap.size + 2) F F2 _ (xs.take k) l w2.heap.size a2 c2 rfl rfl ?a1 ?a2 ?a3 ?a4 ?a5 ?a6 ?_)
      case a1 => exact sltsR.alloc HO2.out _
      case a2 => exact sltR.alloc HU.out _
      case a3 => exact fun b h1 h2 => by have := HFl.out b h1; have := HF2.out b h2; omega
      case a4 => simp [go_sem]
      case a5 => rw [List.length_take, HN.out]; omega
      case a6 => simp; omega
      intro v3 w3 F3 o3 hb3 _
      rw [← HL.out] at o3
      obtain ⟨a3, c3, e3⟩ := slts_form (sltsR.ofO o3)
      rw [show (xs.take (k + 1)).length = k + 1 by rw [List.length_take, HN.out]; omega] at e3
      subst e3
      have o3' : ∃ a c F, (Value.slice a3 (k + 1) c3) = .slice a (k + 1) c ∧ sltsR.O w3 (w.heap.size + 2) F (.slice a (k + 1) c) (xs.take (k + 1)) := ⟨_, _, F3, rfl, o3⟩
      have hB5 : Below (w.heap.size + 2) w2 w3 := ((balloc (Below.refl _ w2) _).mono (by omega)).trans hb3
      have y0' : w3.cell? ⟨w.heap.size, 0, none⟩ = some (.slice (some ⟨b, o, none⟩) n cu) := (hB5.cell (p := ⟨w.heap.size, 0, none⟩) (by simp)).trans y0
      have r0' : w3.cell? ⟨w.heap.size + 1, 0, none⟩ = some (.slice none 0 0) := (hB5.cell (p := ⟨w.heap.size + 1, 0, none⟩) (by simp)).trans r0
      have rf' : ∀ o, w3.frozen? ⟨w.heap.size + 1, o, none⟩ = false := fun o => (hB5.frozen (p := ⟨w.heap.size + 1, o, none⟩) (by simp)).trans (rf o)
      have hB4 : Below w.heap.size w w3 := Below.trans (balloc hB3 _) (hb3.mono (by omega))
      clear o3 hb3 y0 r0 rf
      go_wp2
      exact ⟨⟨k + 1, by omega, by go_num, o3', ⟨y0', r0'⟩, rf', hB4⟩, by simp [intOf]; omega⟩
    · have hkn : k = n := by omega
      subst hkn
      have ho := HO.out
      rw [List.take_of_length_le (by rw [HN.out]; exact Nat.le_refl _)] at ho
      have HO2 : Hid (sltsR.O wr (w.heap.size + 2) F (.slice as_ k cs_) xs) := ho
      clear ho HO
      go_wp2
      refine bodyPost_ret (v := .agg #[.slice as_ k cs_]) ?_ rfl ⟨_, F, rfl, ⟨_, F, rfl, ?_, fun b => Iff.rfl⟩, by (repeat (first | refine bset ?_ (by simp; omega) _ | refine bset ?_ (by simp) _ | refine balloc ?_ _ | assumption))⟩
      · simp [results, Try.results59, go_sem, r0, rf]
      · have h := sltsR.base (base' := w.heap.size) HO2.out (by omega)
        exact Rep.setN _ h _ (fun hb => by have := (sltsR.rng HO2.out _ hb).1; simp at this)
end Go.Proofs.Ytjmabfikbfdjbaa

/-
  The slots of a list of acceptors.
-/
set_option linter.unusedSimpArgs false
set_option linter.unusedVariables false
namespace Go.Proofs.Ytjmabfikbfdjbaa
open Go.RowKit
set_option linter.unusedSectionVars false
variable [DecidableEq Vot] [Inhabited Vot] [DecidableEq Slt] [Inhabited Slt] [DecidableEq SltR] [Inhabited SltR] [DecidableEq Bal] [Inhabited Bal] [DecidableEq Ledg] [Inhabited Ledg] [DecidableEq Leg] [Inhabited Leg] [DecidableEq Acc] [Inhabited Acc] [DecidableEq AccR] [Inhabited AccR] [DecidableEq AccsR] [Inhabited AccsR] [DecidableEq SltsR] [Inhabited SltsR]
attribute [local go_sem ↓] Go.wp_at_zero Go.wp_at_succ

theorem slotsL_len (l : List Acc) (c s : Int) : (slotsL l c s).length = l.length := by simp [slotsL]
end Go.Proofs.Ytjmabfikbfdjbaa

