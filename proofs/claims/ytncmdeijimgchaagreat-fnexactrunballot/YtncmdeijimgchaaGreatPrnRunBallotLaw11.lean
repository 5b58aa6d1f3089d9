import Derived.Test.YtncmdeijimgchaaGreatPrnRunBallotLaw10
import Derived.Test.YtncmdeijimgchaaGreatPrnRunBallotLaw6
import Derived.Test.YtncmdeijimgchaaGreatPrnRunBallotLaw7
import Derived.Test.YtncmdeijimgchaaGreatPrnRunBallotLaw3
import Derived.Shelf.Abstract
import Derived.Deep.AppendLies
import Derived.Test.YtncmdeijimgchaaGreatPrnRunBallotLaw5
import Derived.Test.YtncmdeijimgchaaGreatPrnRunBallotLaw8
import Derived.Test.YtncmdeijimgchaaGreatPrnRunBallotLaw4
import Derived.BigQuiet
import Derived.Deep.QuietTactic
import Derived.Deep.RegionHeld3

/-
  One slot more behind slots, one acceptor more behind acceptors.
-/
set_option linter.unusedVariables false
namespace Go.Proofs.YtncmdeijimgchaaGreat
open Go.RowKit
set_option linter.unusedSectionVars false
variable [DecidableEq Vot] [Inhabited Vot] [DecidableEq Slt] [Inhabited Slt] [DecidableEq Bal] [Inhabited Bal] [DecidableEq Ledg] [Inhabited Ledg] [DecidableEq Leg] [Inhabited Leg] [DecidableEq Acc] [Inhabited Acc]

theorem wpl_appS (w : World) {ops : Array Oper} {rest : List Oper} {o : Oper} {a : Act} {Q : Exit → Act → World → Prop} (hgd : o.guard = none) (s x : Operand)
    (ho : o.op = .call { callee := .builtin .append, args := #[s, x], argTypes := #[56, 56] })
    (base : Nat) (F Fu : Nat → Prop) (v : Value) (xs : List Slt) (y : Slt) (g : Nat) (p : Option Addr) (q : Nat) (hs : a.eval s = v) (hx : a.eval x = .slice (some ⟨g, 0, none⟩) 1 1) (hown : sltsR.O w base F v xs) (hu : sltR.O w base Fu (.agg #[.int .i64 y.con, .int .i64 y.sh, .int .i64 y.pr, .int .i64 y.lb, .int .i64 y.lv, .slice p y.cast.length q]) y) (hd : ∀ b, F b → ¬ Fu b)
    (hc : w.cell? ⟨g, 0, none⟩ = some (.int .i64 y.con) ∧ w.cell? ⟨g, 0 + 1, none⟩ = some (.int .i64 y.sh) ∧ w.cell? ⟨g, 0 + 2, none⟩ = some (.int .i64 y.pr) ∧ w.cell? ⟨g, 0 + 3, none⟩ = some (.int .i64 y.lb) ∧ w.cell? ⟨g, 0 + 4, none⟩ = some (.int .i64 y.lv) ∧ w.cell? ⟨g, 0 + 5, none⟩ = some (.slice p y.cast.length q)) (hn : xs.length ≤ 2000000) (hbase : base ≤ w.heap.size)
    (h : ∀ v' w' F', sltsR.O w' base F' v' (xs ++ [y]) → Below base w w' → (∀ b, F' b → F b ∨ Fu b ∨ w.heap.size ≤ b) → wpList Tryz.prog ops Q rest (a.put o.dst v') w') : wpList Tryz.prog ops Q (o :: rest) a w := by
  obtain ⟨i0, hi, hz0, hz1, hz2⟩ := info_parts infoSlts
  obtain ⟨h6, h1⟩ := slt_one6 hu
  exact wpl_appN w hgd s x 56 ho 76 i0 _ 6 64 Tryz.underlying56 hi hz0 hz1 hz2 rfl (by decide) (by decide) base F Fu v _ xs y ⟨g, 0, none⟩ 1 hs hx hown hu h6 h1 hd (fun j y' hj => by
    match j, hj with
    | 0, hj => simp [lvSlt, one] at hj; subst hj; simpa [Addr.add] using hc.1
    | 1, hj => simp [lvSlt, one] at hj; subst hj; simpa [Addr.add] using hc.2.1
    | 2, hj => simp [lvSlt, one] at hj; subst hj; simpa [Addr.add] using hc.2.2.1
    | 3, hj => simp [lvSlt, one] at hj; subst hj; simpa [Addr.add] using hc.2.2.2.1
    | 4, hj => simp [lvSlt, one] at hj; subst hj; simpa [Addr.add] using hc.2.2.2.2.1
    | 5, hj => simp [lvSlt, one] at hj; subst hj; simpa [Addr.add] using hc.2.2.2.2.2
    | j + 6, hj => simp [lvSlt, one] at hj) hn hbase h
theorem step_appS (w : World) {ops : Array Oper} {o : Oper} {a : Act} {K : Act → World → Prop} {Q : Exit → Act → World → Prop} {E : Prop} (hgd : o.guard = none) (s x : Operand)
    (ho : o.op = .call { callee := .builtin .append, args := #[s, x], argTypes := #[56, 56] })
    (base : Nat) (F Fu : Nat → Prop) (v : Value) (xs : List Slt) (y : Slt) (g : Nat) (p : Option Addr) (q : Nat) (hs : a.eval s = v) (hx : a.eval x = .slice (some ⟨g, 0, none⟩) 1 1) (hown : sltsR.O w base F v xs) (hu : sltR.O w base Fu (.agg #[.int .i64 y.con, .int .i64 y.sh, .int .i64 y.pr, .int .i64 y.lb, .int .i64 y.lv, .slice p y.cast.length q]) y) (hd : ∀ b, F b → ¬ Fu b)
    (hc : w.cell? ⟨g, 0, none⟩ = some (.int .i64 y.con) ∧ w.cell? ⟨g, 0 + 1, none⟩ = some (.int .i64 y.sh) ∧ w.cell? ⟨g, 0 + 2, none⟩ = some (.int .i64 y.pr) ∧ w.cell? ⟨g, 0 + 3, none⟩ = some (.int .i64 y.lb) ∧ w.cell? ⟨g, 0 + 4, none⟩ = some (.int .i64 y.lv) ∧ w.cell? ⟨g, 0 + 5, none⟩ = some (.slice p y.cast.length q)) (hn : xs.length ≤ 2000000) (hbase : base ≤ w.heap.size)
    (h : ∀ v' w' F', sltsR.O w' base F' v' (xs ++ [y]) → Below base w w' → (∀ b, F' b → F b ∨ Fu b ∨ w.heap.size ≤ b) → K (a.put o.dst v') w') :
    if Region.wanted o (yielded ops a.tmps) = true then Oper.wp Tryz.prog o a w K Q else E := by
  obtain ⟨i0, hi, hz0, hz1, hz2⟩ := info_parts infoSlts
  obtain ⟨h6, h1⟩ := slt_one6 hu
  exact step_appN w hgd s x 56 ho 76 i0 _ 6 64 Tryz.underlying56 hi hz0 hz1 hz2 rfl (by decide) (by decide) base F Fu v _ xs y ⟨g, 0, none⟩ 1 hs hx hown hu h6 h1 hd (fun j y' hj => by
    match j, hj with
    | 0, hj => simp [lvSlt, one] at hj; subst hj; simpa [Addr.add] using hc.1
    | 1, hj => simp [lvSlt, one] at hj; subst hj; simpa [Addr.add] using hc.2.1
    | 2, hj => simp [lvSlt, one] at hj; subst hj; simpa [Addr.add] using hc.2.2.1
    | 3, hj => simp [lvSlt, one] at hj; subst hj; simpa [Addr.add] using hc.2.2.2.1
    | 4, hj => simp [lvSlt, one] at hj; subst hj; simpa [Addr.add] using hc.2.2.2.2.1
    | 5, hj => simp [lvSlt, one] at hj; subst hj; simpa [Addr.add] using hc.2.2.2.2.2
    | j + 6, hj => simp [lvSlt, one] at hj) hn hbase h
theorem acc_cells {w : World} {base : Nat} {F : Nat → Prop} {u : Value} {x : Acc} (h : accR.O w base F u x) : ∃ a c, u = .agg #[.slice a x.slots.length c] ∧ lvAcc u = [.slice a x.slots.length c] := by
  obtain ⟨u1, F1, rfl, h1, _⟩ := h
  obtain ⟨a, c, rfl⟩ := slts_form (sltsR.ofO h1)
  exact ⟨a, c, rfl, rfl⟩
theorem wpl_appA (w : World) {ops : Array Oper} {rest : List Oper} {o : Oper} {a : Act} {Q : Exit → Act → World → Prop} (hgd : o.guard = none) (s x : Operand)
    (ho : o.op = .call { callee := .builtin .append, args := #[s, x], argTypes := #[25, 25] })
    (base : Nat) (F Fu : Nat → Prop) (v : Value) (xs : List Acc) (y : Acc) (g : Nat) (p : Option Addr) (q : Nat) (hs : a.eval s = v) (hx : a.eval x = .slice (some ⟨g, 0, none⟩) 1 1) (hown : accsR.O w base F v xs) (hu : accR.O w base Fu (.agg #[.slice p y.slots.length q]) y) (hd : ∀ b, F b → ¬ Fu b)
    (hc : w.cell? ⟨g, 0, none⟩ = some (.slice p y.slots.length q)) (hn : xs.length ≤ 2000000) (hbase : base ≤ w.heap.size)
    (h : ∀ v' w' F', accsR.O w' base F' v' (xs ++ [y]) → Below base w w' → (∀ b, F' b → F b ∨ Fu b ∨ w.heap.size ≤ b) → wpList Tryz.prog ops Q rest (a.put o.dst v') w') : wpList Tryz.prog ops Q (o :: rest) a w := by
  obtain ⟨i0, hi, hz0, hz1, hz2⟩ := info_parts infoAccs
  exact wpl_appN w hgd s x 25 ho 67 i0 _ 1 24 Tryz.underlying25 hi hz0 hz1 hz2 rfl (by decide) (by decide) base F Fu v _ xs y ⟨g, 0, none⟩ 1 hs hx hown hu rfl (fun y' hy => by simp [lvAcc, one] at hy; subst hy; rfl) hd (fun j y' hj => by
    match j, hj with
    | 0, hj => simp [lvAcc, one] at hj; subst hj; simpa [Addr.add] using hc
    | j + 1, hj => simp [lvAcc, one] at hj) hn hbase h
end Go.Proofs.YtncmdeijimgchaaGreat

/-
  slices.BinarySearchFunc over slots; where a slot stands.
-/
set_option linter.unusedVariables false
set_option linter.unusedSimpArgs false
namespace Go.Proofs.YtncmdeijimgchaaGreat
open Go.RowKit
set_option linter.unusedSectionVars false
variable [DecidableEq Vot] [Inhabited Vot] [DecidableEq Slt] [Inhabited Slt] [DecidableEq SltR] [Inhabited SltR] [DecidableEq Bal] [Inhabited Bal] [DecidableEq Ledg] [Inhabited Ledg] [DecidableEq Leg] [Inhabited Leg] [DecidableEq Acc] [Inhabited Acc] [DecidableEq AccR] [Inhabited AccR] [DecidableEq AccsR] [Inhabited AccsR] [DecidableEq SltsR] [Inhabited SltsR]
attribute [local go_sem ↓] Go.wp_at_zero Go.wp_at_succ

theorem sltKeep2 {w w' : World} {b o b' o' : Nat} {x y : Slt} {u v : Value} (hb : Below w.heap.size w w') (h : w.cell? ⟨b, o, none⟩ = some (.int .i64 x.con) ∧ w.cell? ⟨b, o + 1, none⟩ = some (.int .i64 x.sh) ∧ w.cell? ⟨b, o + 2, none⟩ = some (.int .i64 x.pr) ∧ w.cell? ⟨b, o + 3, none⟩ = some (.int .i64 x.lb) ∧ w.cell? ⟨b, o + 4, none⟩ = some (.int .i64 x.lv) ∧ w.cell? ⟨b, o + 5, none⟩ = some (u)) (h' : w.cell? ⟨b', o', none⟩ = some (.int .i64 y.con) ∧ w.cell? ⟨b', o' + 1, none⟩ = some (.int .i64 y.sh) ∧ w.cell? ⟨b', o' + 2, none⟩ = some (.int .i64 y.pr) ∧ w.cell? ⟨b', o' + 3, none⟩ = some (.int .i64 y.lb) ∧ w.cell? ⟨b', o' + 4, none⟩ = some (.int .i64 y.lv) ∧ w.cell? ⟨b', o' + 5, none⟩ = some (v)) :
    Below w.heap.size w w' ∧ (w'.cell? ⟨b, o, none⟩ = some (.int .i64 x.con) ∧ w'.cell? ⟨b, o + 1, none⟩ = some (.int .i64 x.sh) ∧ w'.cell? ⟨b, o + 2, none⟩ = some (.int .i64 x.pr) ∧ w'.cell? ⟨b, o + 3, none⟩ = some (.int .i64 x.lb) ∧ w'.cell? ⟨b, o + 4, none⟩ = some (.int .i64 x.lv) ∧ w'.cell? ⟨b, o + 5, none⟩ = some (u)) ∧ (w'.cell? ⟨b', o', none⟩ = some (.int .i64 y.con) ∧ w'.cell? ⟨b', o' + 1, none⟩ = some (.int .i64 y.sh) ∧ w'.cell? ⟨b', o' + 2, none⟩ = some (.int .i64 y.pr) ∧ w'.cell? ⟨b', o' + 3, none⟩ = some (.int .i64 y.lb) ∧ w'.cell? ⟨b', o' + 4, none⟩ = some (.int .i64 y.lv) ∧ w'.cell? ⟨b', o' + 5, none⟩ = some (v)) :=
  ⟨hb, ⟨cell_keep hb h.1, cell_keep hb h.2.1, cell_keep hb h.2.2.1, cell_keep hb h.2.2.2.1, cell_keep hb h.2.2.2.2.1, cell_keep hb h.2.2.2.2.2⟩, ⟨cell_keep hb h'.1, cell_keep hb h'.2.1, cell_keep hb h'.2.2.1, cell_keep hb h'.2.2.2.1, cell_keep hb h'.2.2.2.2.1, cell_keep hb h'.2.2.2.2.2⟩⟩
theorem slts_at {w : World} {a : Option Addr} {xs : List Slt} {n k : Nat} (hx : ∀ i, i < n → ∃ b o u, a = some ⟨b, o, none⟩ ∧ (lvSlt u).length = 6 ∧ (∀ j, j < 6 → w.cell? ⟨b, o + i * 6 + j, none⟩ = (lvSlt u)[j]?) ∧ sltR.V w u (xs.getD i default)) (hk : k < n) :
    ∃ b o p q, a = some ⟨b, o, none⟩ ∧ (w.cell? ⟨b, o + k * 6, none⟩ = some (.int .i64 (xs.getD k default).con) ∧ w.cell? ⟨b, o + k * 6 + 1, none⟩ = some (.int .i64 (xs.getD k default).sh) ∧ w.cell? ⟨b, o + k * 6 + 2, none⟩ = some (.int .i64 (xs.getD k default).pr) ∧ w.cell? ⟨b, o + k * 6 + 3, none⟩ = some (.int .i64 (xs.getD k default).lb) ∧ w.cell? ⟨b, o + k * 6 + 4, none⟩ = some (.int .i64 (xs.getD k default).lv) ∧ w.cell? ⟨b, o + k * 6 + 5, none⟩ = some (.slice p (xs.getD k default).cast.length q)) ∧ sltR.V w (.agg #[.int .i64 (xs.getD k default).con, .int .i64 (xs.getD k default).sh, .int .i64 (xs.getD k default).pr, .int .i64 (xs.getD k default).lb, .int .i64 (xs.getD k default).lv, .slice p (xs.getD k default).cast.length q]) (xs.getD k default) := by
  obtain ⟨b, o, u, e, _, p, hv⟩ := hx k hk
  have hV := hv
  obtain ⟨s, rfl, hc⟩ := hv
  obtain ⟨au, cu, rfl⟩ := vots_form hc
  exact ⟨b, o, au, cu, e, ⟨p 0 (by omega), p 1 (by omega), p 2 (by omega), p 3 (by omega), p 4 (by omega), p 5 (by omega)⟩, hV⟩
set_option maxRecDepth 20000 in
set_option maxHeartbeats 8000000 in
theorem bsS_any (x : Value) (xs : List Slt) (q : Slt) (uq : Value) (w : World) (hx : sltsR.V w x xs) (hn : xs.length ≤ 1048576)
    (hmono : ∀ a b, a ≤ b → b < xs.length → cmpS (xs.getD b default) q < 0 → cmpS (xs.getD a default) q < 0) :
    Calls Tryz.prog 133 #[x, .agg #[.int .i64 q.con, .int .i64 q.sh, .int .i64 q.pr, .int .i64 q.lb, .int .i64 q.lv, uq], .func (.func 110) #[] #[]] w fun e w' => ∃ i : Nat, i ≤ xs.length ∧ e = .returned (.tuple #[.int .i64 i, .bool (decide (i < xs.length ∧ cmpS (xs.getD i default) q = 0))]) ∧
      (∀ k, k < i → cmpS (xs.getD k default) q < 0) ∧ (∀ k, i ≤ k → k < xs.length → 0 ≤ cmpS (xs.getD k default) q) ∧ Below w.heap.size w w' := by
  obtain ⟨ax, cx, rfl, hcx, hmx, hx⟩ := hx
  unfold maxLen at hmx
  have HMO : Hid (∀ a b, a ≤ b → b < xs.length → cmpS (xs.getD b default) q < 0 → cmpS (xs.getD a default) q < 0) := hmono
  clear hmono
  have hX : Hid (∀ k, k < xs.length → ∃ b o p q, ax = some ⟨b, o, none⟩ ∧ (w.cell? ⟨b, o + k * 6, none⟩ = some (.int .i64 (xs.getD k default).con) ∧ w.cell? ⟨b, o + k * 6 + 1, none⟩ = some (.int .i64 (xs.getD k default).sh) ∧ w.cell? ⟨b, o + k * 6 + 2, none⟩ = some (.int .i64 (xs.getD k default).pr) ∧ w.cell? ⟨b, o + k * 6 + 3, none⟩ = some (.int .i64 (xs.getD k default).lb) ∧ w.cell? ⟨b, o + k * 6 + 4, none⟩ = some (.int .i64 (xs.getD k default).lv) ∧ w.cell? ⟨b, o + k * 6 + 5, none⟩ = some (.slice p (xs.getD k default).cast.length q)) ∧ sltR.V w (.agg #[.int .i64 (xs.getD k default).con, .int .i64 (xs.getD k default).sh, .int .i64 (xs.getD k default).pr, .int .i64 (xs.getD k default).lb, .int .i64 (xs.getD k default).lv, .slice p (xs.getD k default).cast.length q]) (xs.getD k default)) := fun k hk => slts_at hx hk
  clear hx
  generalize hN : xs.length = n at *
  clear hN
  have eg := enters_of Tryz.func110 (by kernel_rfl) rfl
  go_enter Tryz.func133, Tryz.ntmps133
  go_wp2
  go_loopw [9, 10] (fun a b W => ∃ i j : Nat, i ≤ j ∧ j ≤ n ∧ a = .int .i64 i ∧ b = .int .i64 j ∧ Hid (∀ k, k < i → cmpS (xs.getD k default) q < 0) ∧ Hid (∀ k, j ≤ k → k < n → 0 ≤ cmpS (xs.getD k default) q) ∧ (W.cell? ⟨w.heap.size, 0, none⟩ = some (.int .i64 q.con) ∧ W.cell? ⟨w.heap.size, 0 + 1, none⟩ = some (.int .i64 q.sh) ∧ W.cell? ⟨w.heap.size, 0 + 2, none⟩ = some (.int .i64 q.pr) ∧ W.cell? ⟨w.heap.size, 0 + 3, none⟩ = some (.int .i64 q.lb) ∧ W.cell? ⟨w.heap.size, 0 + 4, none⟩ = some (.int .i64 q.lv) ∧ W.cell? ⟨w.heap.size, 0 + 5, none⟩ = some (uq)) ∧ Below w.heap.size w W) (fun a b _ => (intOf b).toNat - (intOf a).toNat)
  case atStart => exact ⟨0, n, Nat.zero_le _, Nat.le_refl _, rfl, rfl, fun k h => absurd h (Nat.not_lt_zero _), fun k h1 h2 => by omega, by simp [go_sem], balloc (Below.refl _ _) _⟩
  case round =>
    obtain ⟨i, j, hij, hjn, rfl, rfl, HA, HB, hq, hbl⟩ := hrel
    by_cases hlt : i < j
    · have hlt' : (i : Int) < j := by omega
      go_wp2
      obtain ⟨m, hm⟩ : ∃ m : Nat, ((i : Int) + j) / 2 = (m : Int) := ⟨(i + j) / 2, by omega⟩
      have hm1 : i ≤ m := by omega
      have hm2 : m < j := by omega
      rw [hm]
      clear hm
      obtain ⟨b, o, pp, qq, rfl, hc, _⟩ := hX.out m (by omega)
      obtain ⟨l, hl⟩ : ∃ l, l = xs.getD m default := ⟨_, rfl⟩
      rw [← hl] at hc
      have HL : Hid (l = xs.getD m default) := hl
      clear hl hX
      have r1 := (sltKeep2 hbl hc hc).2.1
      have hi4 : (0 : Int) ≤ m := by omega
      have hi5 : (m : Int) < n := by omega
      go_region_held3 (fun W => Below wr.heap.size wr W ∧ (W.cell? ⟨b, o + m * 6, none⟩ = some (.int .i64 l.con) ∧ W.cell? ⟨b, o + m * 6 + 1, none⟩ = some (.int .i64 l.sh) ∧ W.cell? ⟨b, o + m * 6 + 2, none⟩ = some (.int .i64 l.pr) ∧ W.cell? ⟨b, o + m * 6 + 3, none⟩ = some (.int .i64 l.lb) ∧ W.cell? ⟨b, o + m * 6 + 4, none⟩ = some (.int .i64 l.lv) ∧ W.cell? ⟨b, o + m * 6 + 5, none⟩ = some (.slice pp l.cast.length qq)) ∧ (W.cell? ⟨w.heap.size, 0, none⟩ = some (.int .i64 q.con) ∧ W.cell? ⟨w.heap.size, 0 + 1, none⟩ = some (.int .i64 q.sh) ∧ W.cell? ⟨w.heap.size, 0 + 2, none⟩ = some (.int .i64 q.pr) ∧ W.cell? ⟨w.heap.size, 0 + 3, none⟩ = some (.int .i64 q.lb) ∧ W.cell? ⟨w.heap.size, 0 + 4, none⟩ = some (.int .i64 q.lv) ∧ W.cell? ⟨w.heap.size, 0 + 5, none⟩ = some (uq))) ((refine sltKeep2 ?_ r1 hq; repeat (first | exact Below.refl _ _ | assumption | refine Below.drew ?_ | refine balloc ?_ _ | refine bstep ?_ (by assumption))))
        (first | (go_at_call 110; refine (compareSlots_any l q _ _ _).mono ?_; rintro e wa ⟨rfl, hb1⟩))
      rename_i hH
      have hB := bstep hbl hH.1
      have hq2 := hH.2.2
      clear hH
      by_cases hneg : cmpS l q < 0
      · have hd : decide (cmpS l q < 0) = true := decide_eq_true hneg
        have HA2 : Hid (∀ k, k < m + 1 → cmpS (xs.getD k default) q < 0) := fun k hk => HMO.out k m (by omega) (by omega) (by rw [← HL.out]; exact hneg)
        go_wp2
        refine ⟨⟨m + 1, j, by omega, hjn, by go_num, rfl, HA2, HB, hq2, hB⟩, ?_⟩
        simp [intOf]
        omega
      · have hd : decide (cmpS l q < 0) = false := decide_eq_false hneg
        have HB2 : Hid (∀ k, m ≤ k → k < n → 0 ≤ cmpS (xs.getD k default) q) := fun k hk hkn => by
          by_cases h : cmpS (xs.getD k default) q < 0
          · have := HMO.out m k hk hkn h
            rw [← HL.out] at this
            exact absurd this hneg
          · omega
        go_wp2
        refine ⟨⟨i, m, hm1, by omega, rfl, rfl, HA, HB2, hq2, hB⟩, ?_⟩
        simp [intOf]
        omega
    · obtain rfl : i = j := by omega
      have hi4 : (0 : Int) ≤ i := by omega
      have hnl : ¬ (i : Int) < i := by omega
      by_cases hin : i < n
      · obtain ⟨b, o, pp, qq, rfl, hc, _⟩ := hX.out i hin
        obtain ⟨l, hl⟩ : ∃ l, l = xs.getD i default := ⟨_, rfl⟩
        rw [← hl] at hc
        have HL : Hid (l = xs.getD i default) := hl
        clear hl hX
        have r1 := (sltKeep2 hbl hc hc).2.1
        have hi5 : (i : Int) < n := by omega
        have hi6 : decide (i < n) = true := decide_eq_true hin
        go_wp2
        go_region_held3 (fun W => Below wr.heap.size wr W ∧ (W.cell? ⟨b, o + i * 6, none⟩ = some (.int .i64 l.con) ∧ W.cell? ⟨b, o + i * 6 + 1, none⟩ = some (.int .i64 l.sh) ∧ W.cell? ⟨b, o + i * 6 + 2, none⟩ = some (.int .i64 l.pr) ∧ W.cell? ⟨b, o + i * 6 + 3, none⟩ = some (.int .i64 l.lb) ∧ W.cell? ⟨b, o + i * 6 + 4, none⟩ = some (.int .i64 l.lv) ∧ W.cell? ⟨b, o + i * 6 + 5, none⟩ = some (.slice pp l.cast.length qq)) ∧ (W.cell? ⟨w.heap.size, 0, none⟩ = some (.int .i64 q.con) ∧ W.cell? ⟨w.heap.size, 0 + 1, none⟩ = some (.int .i64 q.sh) ∧ W.cell? ⟨w.heap.size, 0 + 2, none⟩ = some (.int .i64 q.pr) ∧ W.cell? ⟨w.heap.size, 0 + 3, none⟩ = some (.int .i64 q.lb) ∧ W.cell? ⟨w.heap.size, 0 + 4, none⟩ = some (.int .i64 q.lv) ∧ W.cell? ⟨w.heap.size, 0 + 5, none⟩ = some (uq))) ((refine sltKeep2 ?_ r1 hq; repeat (first | exact Below.refl _ _ | assumption | refine Below.drew ?_ | refine balloc ?_ _ | refine bstep ?_ (by assumption))))
          (first | (go_at_call 110; refine (compareSlots_any l q _ _ _).mono ?_; rintro e wa ⟨rfl, hb1⟩))
        rename_i hH
        have hB := bstep hbl hH.1
        clear hH
        go_wp2
        refine bodyPost_ret (v := .tuple #[.int .i64 i, .bool (cmpS l q == 0)]) (by simp [results, Tryz.results133, go_sem]) rfl ?_
        refine ⟨i, hjn, ?_, HA.out, HB.out, hB⟩
        rw [← HL.out]
        have e : (cmpS l q == 0) = decide (i < n ∧ cmpS l q = 0) := by
          rw [Bool.eq_iff_iff]
          simp [hin]
        rw [e]
      · have hi5 : ¬ (i : Int) < n := by omega
        have hi6 : decide (i < n) = false := decide_eq_false hin
        go_wp2
        go_quiet (fail)
        go_wp2
        refine bodyPost_ret (v := .tuple #[.int .i64 i, .bool false]) (by simp [results, Tryz.results133, go_sem]) rfl ?_
        refine ⟨i, hjn, ?_, HA.out, HB.out, bdrewN hbl _⟩
        simp [hin]
def PlE (xs : List Slt) (q : Slt) (w : World) (e : Ending) (w' : World) : Prop :=
  ∃ i : Nat, i ≤ xs.length ∧ e = .returned (.tuple #[.int .i64 i, .bool (decide (i < xs.length ∧ cmpS (xs.getD i default) q = 0))]) ∧
    (∀ k, k < i → cmpS (xs.getD k default) q < 0) ∧ (∀ k, i ≤ k → k < xs.length → 0 ≤ cmpS (xs.getD k default) q) ∧ Below w.heap.size w w'
theorem accOk_mono {xs : List Slt} (h : AccOk xs) (q : Slt) : ∀ a b, a ≤ b → b < xs.length → cmpS (xs.getD b default) q < 0 → cmpS (xs.getD a default) q < 0 := by
  intro a b hab hb hc
  rcases Nat.eq_or_lt_of_le hab with rfl | hlt
  · exact hc
  · have h1 := aheadS_iff.1 (h.ord a b hlt hb)
    rw [cmpS_lt] at hc ⊢
    omega
set_option maxHeartbeats 1000000 in
theorem placeIn_any (x : Value) (d : Acc) (q : Slt) (uq : Value) (w : World) (hx : accR.V w x d) (hok : AccOk d.slots) :
    Calls Tryz.prog 114 #[x, .agg #[.int .i64 q.con, .int .i64 q.sh, .int .i64 q.pr, .int .i64 q.lb, .int .i64 q.lv, uq]] w fun e w' => PlE d.slots q w e w' := by
  obtain ⟨u1, rfl, hx⟩ := hx
  obtain ⟨xs⟩ := d
  dsimp only at hx hok ⊢
  have hl := hok.len
  have HP : Hid (∀ W, Below w.heap.size w W → Calls Tryz.prog 133 #[u1, .agg #[.int .i64 q.con, .int .i64 q.sh, .int .i64 q.pr, .int .i64 q.lb, .int .i64 q.lv, uq], .func (.func 110) #[] #[]] W fun e w' => PlE xs q W e w') := fun W hW => bsS_any u1 xs q uq W (sltsR.below hx hW) (by omega) (accOk_mono hok q)
  obtain ⟨au, cu, rfl⟩ := slts_form hx
  clear hx
  go_enter Tryz.func114, Tryz.ntmps114
  go_wp2_with fail
  refine (HP.out _ (by (repeat (first | exact Below.refl _ _ | assumption | refine Below.drew ?_ | refine balloc ?_ _ | refine bset ?_ (by simp; omega) _ | refine bset ?_ (by simp) _ | refine bstep ?_ (by assumption))))).mono ?_
  rintro e w1 ⟨i, hi, rfl, h1, h2, hb1⟩
  have hB1 : Below w.heap.size w w1 := by (repeat (first | exact Below.refl _ _ | assumption | refine Below.drew ?_ | refine balloc ?_ _ | refine bset ?_ (by simp; omega) _ | refine bset ?_ (by simp) _ | refine bstep ?_ (by assumption)))
  have HA : Hid (∀ k, k < i → cmpS (xs.getD k default) q < 0) := h1
  have HB : Hid (∀ k, i ≤ k → k < xs.length → 0 ≤ cmpS (xs.getD k default) q) := h2
  clear h1 h2
  generalize hD : decide (i < xs.length ∧ cmpS (xs.getD i default) q = 0) = D
  go_wp2
  refine bodyPost_ret (v := .tuple #[.int .i64 i, .bool D]) (by simp [results, Tryz.results114, go_sem]) rfl ?_
  exact ⟨i, hi, by rw [hD], HA.out, HB.out, hB1⟩
end Go.Proofs.YtncmdeijimgchaaGreat

/-
  AcceptSlot, the specification's.
-/
set_option linter.unusedSimpArgs false
set_option linter.unusedVariables false
namespace Go.Proofs.YtncmdeijimgchaaGreat
open Go.RowKit
set_option linter.unusedSectionVars false
variable [DecidableEq Vot] [Inhabited Vot] [DecidableEq Slt] [Inhabited Slt] [DecidableEq SltR] [Inhabited SltR] [DecidableEq Bal] [Inhabited Bal] [DecidableEq Ledg] [Inhabited Ledg] [DecidableEq Leg] [Inhabited Leg]
attribute [local go_sem ↓] Go.wp_at_zero Go.wp_at_succ

theorem heap_new2 (w : World) (o o' : Obj) : ((w.alloc o).alloc o').heap[w.heap.size]? = some o := by
  show ((w.heap.push o).push o')[w.heap.size]? = some o
  simp [Array.getElem?_push]
theorem own_other {w : World} {base e size : Nat} {v : Value} {n : Nat} {xs : List Value} {k : Nat} {c : Array Value} {t : Nat} {f : Nat × Nat} (h : w.ownsRow base e size v n xs) (hb : w.heap[k]? = some (.cells c t f)) (hne : ¬ t = e) : ¬ v.ownBlock = some k := by
  intro he
  rcases h.2 with ⟨rfl, _⟩ | ⟨g, cap, cur, rfl, _, hg, _⟩
  · simp [Value.ownBlock] at he
  · simp only [Value.ownBlock, Option.some.injEq] at he
    subst he
    rw [hb] at hg
    simp at hg
    exact hne hg.2.1
theorem Rep.setN {α : Type} (R : Rep α) {w : World} {base : Nat} {F : Nat → Prop} {v : Value} {x : α} (h : R.O w base F v x) {p : Addr} (u : Value) (hp : ¬ F p.block) : R.O (w.setCell p u) base F v x :=
  R.mod h (Mod.of_set w p u) (fun b hb he => hp (he ▸ hb))
def AccEnd (x : Value) (c : Int) (s : Slt) (w : World) (e : Ending) (w' : World) : Prop :=
  ∃ u, e = .returned (.tuple #[u, .int .i64 c]) ∧ Below w.heap.size w w' ∧ (¬ c = 0 → u = x) ∧ (c = 0 → ∃ F, sltR.O w' w.heap.size F u s)
set_option maxHeartbeats 4000000 in
theorem l8Accept_u (x : Value) (d : Slt) (v : Vot) (w : World) (hx : sltR.V w x d) (hn : d.cast.length ≤ 60) :
    Calls Tryz.prog 99 #[x, .agg #[.int .i64 v.bal, .int .i64 v.val]] w fun e w' => AccEnd x (accC d v) (accS d v) w e w' := by
  have hX := hx
  obtain ⟨u1, rfl, hx⟩ := hx
  obtain ⟨ax, cx, rfl⟩ := vots_form hx
  clear hx
  by_cases h1 : v.bal < d.pr
  · rw [accC_busy h1]
    go_enter Tryz.func99, Tryz.ntmps99
    go_wp2
    refine bodyPost_ret (v := .tuple #[.agg #[.int .i64 d.con, .int .i64 d.sh, .int .i64 d.pr, .int .i64 d.lb, .int .i64 d.lv, .slice ax d.cast.length cx], .int .i64 8]) (by simp [results, Tryz.results99, go_sem]) rfl ?_
    exact ⟨_, rfl, by (repeat (first | exact Below.refl _ _ | assumption | refine Below.drew ?_ | refine balloc ?_ _ | refine bset ?_ (by simp; omega) _ | refine bset ?_ (by simp) _ | refine bstep ?_ (by assumption))), fun _ => rfl, fun h => absurd h (by omega)⟩
  by_cases h2 : v.bal = d.lb
  · have e2 : (v.bal == d.lb) = true := by simp [h2]
    by_cases h3 : v.val = d.lv
    · rw [accC_same h1 h2 h3, accS_same h2 h3]
      have heq : ∀ w, (binOp .neq 65 (.agg #[.int .i64 v.bal, .int .i64 v.val]) (.agg #[.int .i64 d.lb, .int .i64 d.lv])).run Tryz.prog w = .ok (.bool false) w := fun w => by rw [neqVot]; simp [h2, h3]
      have e3 : (v.val != d.lv) = false := by simp [h3]
      clear h2 h3
      go_enter Tryz.func99, Tryz.ntmps99
      go_wp2_with fail
      refine (l8Copy_u _ d _ (sltR.below hX (by (repeat (first | exact Below.refl _ _ | assumption | refine Below.drew ?_ | refine balloc ?_ _ | refine bset ?_ (by simp; omega) _ | refine bset ?_ (by simp) _ | refine bstep ?_ (by assumption))))) (by omega)).mono ?_
      rintro e w2 ⟨v2, F2, rfl, o2, hb2⟩
      obtain ⟨u2, F1, rfl, ov, hF⟩ := o2
      obtain ⟨a2, c2, rfl⟩ := vots_form (votsR.ofO ov)
      clear hF
      have hB2 : Below w.heap.size w w2 := bstep (by (repeat (first | exact Below.refl _ _ | assumption | refine Below.drew ?_ | refine balloc ?_ _ | refine bset ?_ (by simp; omega) _ | refine bset ?_ (by simp) _ | refine bstep ?_ (by assumption)))) hb2
      have y0 : w2.cell? ⟨w.heap.size, 0, none⟩ = some (.int .i64 d.con) := cell_keep hb2 (by simp [go_sem])
      have y1 : w2.cell? ⟨w.heap.size, 1, none⟩ = some (.int .i64 d.sh) := cell_keep hb2 (by simp [go_sem])
      have y2 : w2.cell? ⟨w.heap.size, 2, none⟩ = some (.int .i64 d.pr) := cell_keep hb2 (by simp [go_sem])
      have y3 : w2.cell? ⟨w.heap.size, 3, none⟩ = some (.int .i64 d.lb) := cell_keep hb2 (by simp [go_sem])
      have y4 : w2.cell? ⟨w.heap.size, 4, none⟩ = some (.int .i64 d.lv) := cell_keep hb2 (by simp [go_sem])
      have y5 : w2.cell? ⟨w.heap.size, 5, none⟩ = some (.slice ax d.cast.length cx) := cell_keep hb2 (by simp [go_sem])
      have yf : ∀ o, w2.frozen? ⟨w.heap.size, o, none⟩ = false := fun o => by rw [(bcell hb2).2 _ _ (by simp; try omega)]; simp [go_sem]
      have r0 : w2.cell? ⟨w.heap.size + 1, 0, none⟩ = some (.int .i64 v.bal) := cell_keep hb2 (by simp [go_sem])
      have r1 : w2.cell? ⟨w.heap.size + 1, 1, none⟩ = some (.int .i64 v.val) := cell_keep hb2 (by simp [go_sem])
      have rf : ∀ o, w2.frozen? ⟨w.heap.size + 1, o, none⟩ = false := fun o => by rw [(bcell hb2).2 _ _ (by simp; try omega)]; simp [go_sem]
      have q0 : w2.cell? ⟨w.heap.size + 2, 0, none⟩ = some (.int .i64 0) := cell_keep hb2 (by simp [go_sem])
      have q1 : w2.cell? ⟨w.heap.size + 2, 1, none⟩ = some (.int .i64 0) := cell_keep hb2 (by simp [go_sem])
      have q2 : w2.cell? ⟨w.heap.size + 2, 2, none⟩ = some (.int .i64 0) := cell_keep hb2 (by simp [go_sem])
      have q3 : w2.cell? ⟨w.heap.size + 2, 3, none⟩ = some (.int .i64 0) := cell_keep hb2 (by simp [go_sem])
      have q4 : w2.cell? ⟨w.heap.size + 2, 4, none⟩ = some (.int .i64 0) := cell_keep hb2 (by simp [go_sem])
      have q5 : w2.cell? ⟨w.heap.size + 2, 5, none⟩ = some (.slice none 0 0) := cell_keep hb2 (by simp [go_sem])
      have qf : ∀ o, w2.frozen? ⟨w.heap.size + 2, o, none⟩ = false := fun o => by rw [(bcell hb2).2 _ _ (by simp; try omega)]; simp [go_sem]
      have hs2 := hb2.size
      simp at hs2
      simp only [World.size_alloc] at ov
      clear hb2
      have zz0 : w.heap.size < w2.heap.size := World.block_lt_of_cell? w2 _ y0
      have zz1 : w.heap.size + 1 < w2.heap.size := World.block_lt_of_cell? w2 _ r0
      have zz2 : w.heap.size + 2 < w2.heap.size := World.block_lt_of_cell? w2 _ q0
      go_wp2
      refine bodyPost_ret (v := .tuple #[.agg #[.int .i64 d.con, .int .i64 d.sh, .int .i64 v.bal, .int .i64 v.bal, .int .i64 v.val, .slice a2 d.cast.length c2], .int .i64 0]) (by simp [results, Tryz.results99, go_sem, q0, q1, q2, q3, q4, q5, qf, zz0, zz1, zz2]) rfl ?_
      refine ⟨_, rfl, ?_, fun h => absurd rfl h, fun _ => ⟨fun b => F1 b, ?_⟩⟩
      · refine balloc ?_ _
        iterate 6 (refine bset ?_ (by simp; try omega) _)
        exact hB2
      · refine ⟨.slice a2 d.cast.length c2, F1, rfl, ?_, fun b => Iff.rfl⟩
        refine votsR.base (base := w.heap.size + 1 + 1 + 1) ?_ (by omega)
        refine Rep.alloc _ ?_ _
        iterate 6 (refine Rep.set _ ?_ _ (by simp; try omega))
        exact ov
    · rw [accC_taken h1 h2 h3]
      have e3 : (v.val != d.lv) = true := by simp [h3]
      clear h2 h3
      go_enter Tryz.func99, Tryz.ntmps99
      go_wp2
      refine bodyPost_ret (v := .tuple #[.agg #[.int .i64 d.con, .int .i64 d.sh, .int .i64 d.pr, .int .i64 d.lb, .int .i64 d.lv, .slice ax d.cast.length cx], .int .i64 7]) (by simp [results, Tryz.results99, go_sem]) rfl ?_
      exact ⟨_, rfl, by (repeat (first | exact Below.refl _ _ | assumption | refine Below.drew ?_ | refine balloc ?_ _ | refine bset ?_ (by simp; omega) _ | refine bset ?_ (by simp) _ | refine bstep ?_ (by assumption))), fun _ => rfl, fun h => absurd h (by omega)⟩
  have e2 : (v.bal == d.lb) = false := by simp [h2]
  have heq : ∀ w, (binOp .neq 65 (.agg #[.int .i64 v.bal, .int .i64 v.val]) (.agg #[.int .i64 d.lb, .int .i64 d.lv])).run Tryz.prog w = .ok (.bool true) w := fun w => by rw [neqVot]; simp [h2]
  by_cases h4 : 60 ≤ d.cast.length
  · rw [accC_many h1 h2 h4]
    clear h2
    go_enter Tryz.func99, Tryz.ntmps99
    go_wp2_with fail
    refine (l8Copy_u _ d _ (sltR.below hX (by (repeat (first | exact Below.refl _ _ | assumption | refine Below.drew ?_ | refine balloc ?_ _ | refine bset ?_ (by simp; omega) _ | refine bset ?_ (by simp) _ | refine bstep ?_ (by assumption))))) (by omega)).mono ?_
    rintro e w2 ⟨v2, F2, rfl, o2, hb2⟩
    obtain ⟨u2, F1, rfl, ov, hF⟩ := o2
    obtain ⟨a2, c2, rfl⟩ := vots_form (votsR.ofO ov)
    clear hF
    have hB2 : Below w.heap.size w w2 := bstep (by (repeat (first | exact Below.refl _ _ | assumption | refine Below.drew ?_ | refine balloc ?_ _ | refine bset ?_ (by simp; omega) _ | refine bset ?_ (by simp) _ | refine bstep ?_ (by assumption)))) hb2
    have y0 : w2.cell? ⟨w.heap.size, 0, none⟩ = some (.int .i64 d.con) := cell_keep hb2 (by simp [go_sem])
    have y1 : w2.cell? ⟨w.heap.size, 1, none⟩ = some (.int .i64 d.sh) := cell_keep hb2 (by simp [go_sem])
    have y2 : w2.cell? ⟨w.heap.size, 2, none⟩ = some (.int .i64 d.pr) := cell_keep hb2 (by simp [go_sem])
    have y3 : w2.cell? ⟨w.heap.size, 3, none⟩ = some (.int .i64 d.lb) := cell_keep hb2 (by simp [go_sem])
    have y4 : w2.cell? ⟨w.heap.size, 4, none⟩ = some (.int .i64 d.lv) := cell_keep hb2 (by simp [go_sem])
    have y5 : w2.cell? ⟨w.heap.size, 5, none⟩ = some (.slice ax d.cast.length cx) := cell_keep hb2 (by simp [go_sem])
    have yf : ∀ o, w2.frozen? ⟨w.heap.size, o, none⟩ = false := fun o => by rw [(bcell hb2).2 _ _ (by simp; try omega)]; simp [go_sem]
    have r0 : w2.cell? ⟨w.heap.size + 1, 0, none⟩ = some (.int .i64 v.bal) := cell_keep hb2 (by simp [go_sem])
    have r1 : w2.cell? ⟨w.heap.size + 1, 1, none⟩ = some (.int .i64 v.val) := cell_keep hb2 (by simp [go_sem])
    have rf : ∀ o, w2.frozen? ⟨w.heap.size + 1, o, none⟩ = false := fun o => by rw [(bcell hb2).2 _ _ (by simp; try omega)]; simp [go_sem]
    have q0 : w2.cell? ⟨w.heap.size + 2, 0, none⟩ = some (.int .i64 0) := cell_keep hb2 (by simp [go_sem])
    have q1 : w2.cell? ⟨w.heap.size + 2, 1, none⟩ = some (.int .i64 0) := cell_keep hb2 (by simp [go_sem])
    have q2 : w2.cell? ⟨w.heap.size + 2, 2, none⟩ = some (.int .i64 0) := cell_keep hb2 (by simp [go_sem])
    have q3 : w2.cell? ⟨w.heap.size + 2, 3, none⟩ = some (.int .i64 0) := cell_keep hb2 (by simp [go_sem])
    have q4 : w2.cell? ⟨w.heap.size + 2, 4, none⟩ = some (.int .i64 0) := cell_keep hb2 (by simp [go_sem])
    have q5 : w2.cell? ⟨w.heap.size + 2, 5, none⟩ = some (.slice none 0 0) := cell_keep hb2 (by simp [go_sem])
    have qf : ∀ o, w2.frozen? ⟨w.heap.size + 2, o, none⟩ = false := fun o => by rw [(bcell hb2).2 _ _ (by simp; try omega)]; simp [go_sem]
    have hs2 := hb2.size
    simp at hs2
    simp only [World.size_alloc] at ov
    clear hb2
    have zz0 : w.heap.size < w2.heap.size := World.block_lt_of_cell? w2 _ y0
    have zz1 : w.heap.size + 1 < w2.heap.size := World.block_lt_of_cell? w2 _ r0
    have zz2 : w.heap.size + 2 < w2.heap.size := World.block_lt_of_cell? w2 _ q0
    clear ov
    go_wp2
    refine bodyPost_ret (v := .tuple #[.agg #[.int .i64 d.con, .int .i64 d.sh, .int .i64 d.pr, .int .i64 d.lb, .int .i64 d.lv, .slice ax d.cast.length cx], .int .i64 2]) (by simp [results, Tryz.results99, go_sem, q0, q1, q2, q3, q4, q5, qf, y0, y1, y2, y3, y4, y5, zz0, zz1, zz2]) rfl ?_
    refine ⟨_, rfl, ?_, fun _ => rfl, fun h => absurd h (by omega)⟩
    refine balloc ?_ _
    iterate 6 (refine bset ?_ (by simp; try omega) _)
    exact hB2
  · rw [accC_new h1 h2 h4, accS_new h2]
    clear h2
    go_enter Tryz.func99, Tryz.ntmps99
    go_wp2_with fail
    refine (l8Copy_u _ d _ (sltR.below hX (by (repeat (first | exact Below.refl _ _ | assumption | refine Below.drew ?_ | refine balloc ?_ _ | refine bset ?_ (by simp; omega) _ | refine bset ?_ (by simp) _ | refine bstep ?_ (by assumption))))) (by omega)).mono ?_
    rintro e w2 ⟨v2, F2, rfl, o2, hb2⟩
    obtain ⟨u2, F1, rfl, ov, hF⟩ := o2
    obtain ⟨a2, c2, rfl⟩ := vots_form (votsR.ofO ov)
    clear hF
    have hB2 : Below w.heap.size w w2 := bstep (by (repeat (first | exact Below.refl _ _ | assumption | refine Below.drew ?_ | refine balloc ?_ _ | refine bset ?_ (by simp; omega) _ | refine bset ?_ (by simp) _ | refine bstep ?_ (by assumption)))) hb2
    have y0 : w2.cell? ⟨w.heap.size, 0, none⟩ = some (.int .i64 d.con) := cell_keep hb2 (by simp [go_sem])
    have y1 : w2.cell? ⟨w.heap.size, 1, none⟩ = some (.int .i64 d.sh) := cell_keep hb2 (by simp [go_sem])
    have y2 : w2.cell? ⟨w.heap.size, 2, none⟩ = some (.int .i64 d.pr) := cell_keep hb2 (by simp [go_sem])
    have y3 : w2.cell? ⟨w.heap.size, 3, none⟩ = some (.int .i64 d.lb) := cell_keep hb2 (by simp [go_sem])
    have y4 : w2.cell? ⟨w.heap.size, 4, none⟩ = some (.int .i64 d.lv) := cell_keep hb2 (by simp [go_sem])
    have y5 : w2.cell? ⟨w.heap.size, 5, none⟩ = some (.slice ax d.cast.length cx) := cell_keep hb2 (by simp [go_sem])
    have yf : ∀ o, w2.frozen? ⟨w.heap.size, o, none⟩ = false := fun o => by rw [(bcell hb2).2 _ _ (by simp; try omega)]; simp [go_sem]
    have r0 : w2.cell? ⟨w.heap.size + 1, 0, none⟩ = some (.int .i64 v.bal) := cell_keep hb2 (by simp [go_sem])
    have r1 : w2.cell? ⟨w.heap.size + 1, 1, none⟩ = some (.int .i64 v.val) := cell_keep hb2 (by simp [go_sem])
    have rf : ∀ o, w2.frozen? ⟨w.heap.size + 1, o, none⟩ = false := fun o => by rw [(bcell hb2).2 _ _ (by simp; try omega)]; simp [go_sem]
    have q0 : w2.cell? ⟨w.heap.size + 2, 0, none⟩ = some (.int .i64 0) := cell_keep hb2 (by simp [go_sem])
    have q1 : w2.cell? ⟨w.heap.size + 2, 1, none⟩ = some (.int .i64 0) := cell_keep hb2 (by simp [go_sem])
    have q2 : w2.cell? ⟨w.heap.size + 2, 2, none⟩ = some (.int .i64 0) := cell_keep hb2 (by simp [go_sem])
    have q3 : w2.cell? ⟨w.heap.size + 2, 3, none⟩ = some (.int .i64 0) := cell_keep hb2 (by simp [go_sem])
    have q4 : w2.cell? ⟨w.heap.size + 2, 4, none⟩ = some (.int .i64 0) := cell_keep hb2 (by simp [go_sem])
    have q5 : w2.cell? ⟨w.heap.size + 2, 5, none⟩ = some (.slice none 0 0) := cell_keep hb2 (by simp [go_sem])
    have qf : ∀ o, w2.frozen? ⟨w.heap.size + 2, o, none⟩ = false := fun o => by rw [(bcell hb2).2 _ _ (by simp; try omega)]; simp [go_sem]
    have hs2 := hb2.size
    simp at hs2
    simp only [World.size_alloc] at ov
    clear hb2
    have zz0 : w.heap.size < w2.heap.size := World.block_lt_of_cell? w2 _ y0
    have zz1 : w.heap.size + 1 < w2.heap.size := World.block_lt_of_cell? w2 _ r0
    have zz2 : w.heap.size + 2 < w2.heap.size := World.block_lt_of_cell? w2 _ q0
    have hne : ∀ b, (Value.slice a2 d.cast.length c2).ownBlock = some b → b < w2.heap.size := fun b hb => (ov.1.lt b hb).2
    have hlo : ∀ b, (Value.slice a2 d.cast.length c2).ownBlock = some b → w.heap.size + 1 + 1 + 1 ≤ b := fun b hb => (ov.1.lt b hb).1
    have HO : Hid (votsR.O w2 (w.heap.size + 1 + 1 + 1) F1 (.slice a2 d.cast.length c2) d.cast) := ov
    clear ov
    go_wp2_with (at_builtin; refine wpList_appV _ rfl _ _ rfl (w.heap.size + 1 + 1 + 1) _ d.cast rfl _ [v] rfl (Rep.alloc votsR (Rep.alloc votsR HO.out _) _).1 ?c0 ?c1 ?c2 ?_)
    case c0 => exact appAny_vot (g := w2.heap.size + 1) (by simp [go_sem]) (by simp [go_sem])
    case c1 => simp; omega
    case c2 => simp; omega
    intro v' w3 ho hg hbel
    have hB3 : Below w.heap.size w w3 := Below.trans (balloc (balloc hB2 _) _) ((hbel _ (Below.refl _ _)).mono (by omega))
    have n2 : ∀ k, w2.heap.size ≤ k → some k ≠ (Value.slice a2 d.cast.length c2).ownBlock := fun k hk he => by have := hne k he.symm; omega
    have n1 : ∀ k, k < w.heap.size + 1 + 1 + 1 → some k ≠ (Value.slice a2 d.cast.length c2).ownBlock := fun k hk he => by have := hlo k he.symm; omega
    clear hbel
    have p0 : w3.cell? ⟨w2.heap.size, 0, none⟩ = some (.int .i64 d.con) := hg.cell (by simp [go_sem]) (n2 _ (by simp))
    have p1 : w3.cell? ⟨w2.heap.size, 1, none⟩ = some (.int .i64 d.sh) := hg.cell (by simp [go_sem]) (n2 _ (by simp))
    have p2 : w3.cell? ⟨w2.heap.size, 2, none⟩ = some (.int .i64 v.bal) := hg.cell (by simp [go_sem]) (n2 _ (by simp))
    have p3 : w3.cell? ⟨w2.heap.size, 3, none⟩ = some (.int .i64 d.lb) := hg.cell (by simp [go_sem]) (n2 _ (by simp))
    have p4 : w3.cell? ⟨w2.heap.size, 4, none⟩ = some (.int .i64 d.lv) := hg.cell (by simp [go_sem]) (n2 _ (by simp))
    have p5 : w3.cell? ⟨w2.heap.size, 5, none⟩ = some (.slice a2 d.cast.length c2) := hg.cell (by simp [go_sem]) (n2 _ (by simp))
    have pf : ∀ o, w3.frozen? ⟨w2.heap.size, o, none⟩ = false := fun o => (hg.frozen_far ⟨w2.heap.size, o, none⟩ (by simp; try omega) (n2 _ (by simp))).trans (by simp [go_sem])
    replace r0 : w3.cell? ⟨w.heap.size + 1, 0, none⟩ = some (.int .i64 v.bal) := hg.cell (cell_keep (balloc (balloc (Below.refl _ w2) _) _) r0) (n1 _ (by simp))
    replace r1 : w3.cell? ⟨w.heap.size + 1, 1, none⟩ = some (.int .i64 v.val) := hg.cell (cell_keep (balloc (balloc (Below.refl _ w2) _) _) r1) (n1 _ (by simp))
    replace q0 : w3.cell? ⟨w.heap.size + 2, 0, none⟩ = some (.int .i64 0) := hg.cell (cell_keep (balloc (balloc (Below.refl _ w2) _) _) q0) (n1 _ (by simp))
    replace q1 : w3.cell? ⟨w.heap.size + 2, 1, none⟩ = some (.int .i64 0) := hg.cell (cell_keep (balloc (balloc (Below.refl _ w2) _) _) q1) (n1 _ (by simp))
    replace q2 : w3.cell? ⟨w.heap.size + 2, 2, none⟩ = some (.int .i64 0) := hg.cell (cell_keep (balloc (balloc (Below.refl _ w2) _) _) q2) (n1 _ (by simp))
    replace q3 : w3.cell? ⟨w.heap.size + 2, 3, none⟩ = some (.int .i64 0) := hg.cell (cell_keep (balloc (balloc (Below.refl _ w2) _) _) q3) (n1 _ (by simp))
    replace q4 : w3.cell? ⟨w.heap.size + 2, 4, none⟩ = some (.int .i64 0) := hg.cell (cell_keep (balloc (balloc (Below.refl _ w2) _) _) q4) (n1 _ (by simp))
    replace q5 : w3.cell? ⟨w.heap.size + 2, 5, none⟩ = some (.slice none 0 0) := hg.cell (cell_keep (balloc (balloc (Below.refl _ w2) _) _) q5) (n1 _ (by simp))
    replace qf : ∀ o, w3.frozen? ⟨w.heap.size + 2, o, none⟩ = false := fun o => (hg.frozen_far ⟨w.heap.size + 2, o, none⟩ (by simp; omega) (n1 _ (by simp))).trans ((bcell (balloc (balloc (Below.refl _ w2) _) _)).2 _ _ zz2 ▸ qf o)
    have hs3 := hg.size
    simp at hs3
    obtain ⟨a3, c3, rfl⟩ := owns_form ho
    have hblk : w3.heap[w2.heap.size]? = some (.cells #[.int .i64 d.con, .int .i64 d.sh, .int .i64 v.bal, .int .i64 d.lb, .int .i64 d.lv, .slice a2 d.cast.length c2] 76) := (hg.block _ (by simp; try omega) (n2 _ (Nat.le_refl _))).trans (heap_new2 _ _ _)
    have hne3 : ¬ (Value.slice a3 (d.cast.length + 1) c3).ownBlock = some w2.heap.size := own_other ho hblk (by decide)
    have o3 : ∃ F, votsR.O w3 (w.heap.size + 1 + 1 + 1) F (.slice a3 (d.cast.length + 1) c3) (d.cast ++ [v]) ∧ ¬ F w2.heap.size := ⟨_, ⟨by rw [List.length_append]; exact ho, rfl⟩, hne3⟩
    obtain ⟨F3, o3, hF3⟩ := o3
    generalize d.cast.length + 1 = N3 at *
    clear hg n1 n2 hB2 hblk hne3 ho y0 y1 y2 y3 y4 y5 yf rf
    go_wp2
    refine bodyPost_ret (v := .tuple #[.agg #[.int .i64 d.con, .int .i64 d.sh, .int .i64 v.bal, .int .i64 v.bal, .int .i64 v.val, .slice a3 N3 c3], .int .i64 0]) (by simp [results, Tryz.results99, go_sem, q0, q1, q2, q3, q4, q5, qf, p0, p1, p2, p3, p4, p5, zz0, zz1, zz2]) rfl ?_
    refine ⟨_, rfl, ?_, fun h => absurd rfl h, fun _ => ⟨fun b => F3 b, ?_⟩⟩
    · iterate 9 (refine bset ?_ (by simp; try omega) _)
      exact hB3
    · refine ⟨.slice a3 N3 c3, F3, rfl, ?_, fun b => Iff.rfl⟩
      refine votsR.base (base := w.heap.size + 1 + 1 + 1) ?_ (by omega)
      iterate 6 (refine Rep.set _ ?_ _ (by simp; try omega))
      iterate 3 (refine Rep.setN _ ?_ _ hF3)
      exact o3
set_option maxHeartbeats 4000000 in
theorem specAcc_u (x : Value) (d : Slt) (b vl : Int) (w : World) (hx : sltR.V w x d) (hn : wtSlt d ≤ 1048576) :
    Calls Tryz.prog 66 #[x, .int .i64 b, .int .i64 vl] w fun e w' => ∃ v F, e = .returned v ∧ sltRR.O w' w.heap.size F v (accD d b vl) ∧ Below w.heap.size w w' := by
  have hX := hx
  obtain ⟨u1, rfl, hx⟩ := hx
  obtain ⟨ax, cx, rfl⟩ := vots_form hx
  clear hx
  have hl : d.cast.length ≤ 1048576 := hn
  clear hn
  go_enter Tryz.func66, Tryz.ntmps66
  go_wp2_with fail
  refine (specSlotF_any _ d _ (sltR.below hX (by (repeat (first | exact Below.refl _ _ | assumption | refine Below.drew ?_ | refine balloc ?_ _ | refine bset ?_ (by simp; omega) _ | refine bset ?_ (by simp) _ | refine bstep ?_ (by assumption)))))).mono ?_
  rintro e w1 ⟨rfl, hb1⟩
  have hB1 : Below w.heap.size w w1 := bstep (by (repeat (first | exact Below.refl _ _ | assumption | refine Below.drew ?_ | refine balloc ?_ _ | refine bset ?_ (by simp; omega) _ | refine bset ?_ (by simp) _ | refine bstep ?_ (by assumption)))) hb1
  have y0 : w1.cell? ⟨w.heap.size, 0, none⟩ = some (.int .i64 d.con) := cell_keep hb1 (by simp [go_sem])
  have y1 : w1.cell? ⟨w.heap.size, 1, none⟩ = some (.int .i64 d.sh) := cell_keep hb1 (by simp [go_sem])
  have y2 : w1.cell? ⟨w.heap.size, 2, none⟩ = some (.int .i64 d.pr) := cell_keep hb1 (by simp [go_sem])
  have y3 : w1.cell? ⟨w.heap.size, 3, none⟩ = some (.int .i64 d.lb) := cell_keep hb1 (by simp [go_sem])
  have y4 : w1.cell? ⟨w.heap.size, 4, none⟩ = some (.int .i64 d.lv) := cell_keep hb1 (by simp [go_sem])
  have y5 : w1.cell? ⟨w.heap.size, 5, none⟩ = some (.slice ax d.cast.length cx) := cell_keep hb1 (by simp [go_sem])
  have yf : ∀ o, w1.frozen? ⟨w.heap.size, o, none⟩ = false := fun o => by rw [(bcell hb1).2 _ _ (by simp; try omega)]; simp [go_sem]
  have q0 : w1.cell? ⟨w.heap.size + 1, 0, none⟩ = some (.int .i64 0) := cell_keep hb1 (by simp [go_sem])
  have q1 : w1.cell? ⟨w.heap.size + 1, 1, none⟩ = some (.int .i64 0) := cell_keep hb1 (by simp [go_sem])
  have q2 : w1.cell? ⟨w.heap.size + 1, 2, none⟩ = some (.int .i64 0) := cell_keep hb1 (by simp [go_sem])
  have q3 : w1.cell? ⟨w.heap.size + 1, 3, none⟩ = some (.int .i64 0) := cell_keep hb1 (by simp [go_sem])
  have q4 : w1.cell? ⟨w.heap.size + 1, 4, none⟩ = some (.int .i64 0) := cell_keep hb1 (by simp [go_sem])
  have q5 : w1.cell? ⟨w.heap.size + 1, 5, none⟩ = some (.int .i64 0) := cell_keep hb1 (by simp [go_sem])
  have q6 : w1.cell? ⟨w.heap.size + 1, 6, none⟩ = some (.int .i64 0) := cell_keep hb1 (by simp [go_sem])
  have q7 : w1.cell? ⟨w.heap.size + 1, 7, none⟩ = some (.int .i64 0) := cell_keep hb1 (by simp [go_sem])
  have q8 : w1.cell? ⟨w.heap.size + 1, 8, none⟩ = some (.slice none 0 0) := cell_keep hb1 (by simp [go_sem])
  have qf : ∀ o, w1.frozen? ⟨w.heap.size + 1, o, none⟩ = false := fun o => by rw [(bcell hb1).2 _ _ (by simp; try omega)]; simp [go_sem]
  have z1 := hb1.size
  simp at z1
  have hs1 := hB1.size
  clear hb1
  by_cases hf : sltFault d = 0
  · have HF : Hid (sltFault d = 0) := hf
    have hl6 : d.cast.length ≤ 60 := (sltOk_of hf).len
    rw [hf]
    clear hf
    cases h1 : inB b 0 1000
    · have HD : Hid (accD d b vl = errS 3) := accD_range HF.out (by rw [h1]; rfl)
      go_wp2_with (go_at_call 25; refine (l8Ballot_any _ _).mono ?_; rintro e w' ⟨rfl, hw'⟩; obtain rfl := hw'.symm; rw [h1])
      refine bodyPost_ret (v := .agg #[.int .i64 3, .int .i64 0, .int .i64 0, .int .i64 0, .int .i64 0, .int .i64 0, .int .i64 0, .int .i64 0, .slice none 0 0]) (by simp [results, Tryz.results66, go_sem, q0, q1, q2, q3, q4, q5, q6, q7, q8, qf]) rfl ?_
      rw [HD.out]
      first | exact ⟨_, rfl, ⟨_, sltR_nil _ _ 3 0 0 0 0 0 0 0⟩, by (repeat (first | refine bset ?_ (by simp; omega) _ | refine bset ?_ (by simp) _ | refine balloc ?_ _ | assumption))⟩ | exact ⟨_, _, rfl, sltR_nil _ _ 3 0 0 0 0 0 0 0, by (repeat (first | refine bset ?_ (by simp; omega) _ | refine bset ?_ (by simp) _ | refine balloc ?_ _ | assumption))⟩
    cases h2 : inB vl 1 2
    · have HD : Hid (accD d b vl = errS 3) := accD_range HF.out (by rw [h1, h2]; rfl)
      go_wp2_with (first | (go_at_call 25; refine (l8Ballot_any _ _).mono ?_; rintro e w' ⟨rfl, hw'⟩; obtain rfl := hw'.symm; rw [h1]) | (go_at_call 26; refine (l8Value_any _ _).mono ?_; rintro e w' ⟨rfl, hw'⟩; obtain rfl := hw'.symm; rw [h2]))
      refine bodyPost_ret (v := .agg #[.int .i64 3, .int .i64 0, .int .i64 0, .int .i64 0, .int .i64 0, .int .i64 0, .int .i64 0, .int .i64 0, .slice none 0 0]) (by simp [results, Tryz.results66, go_sem, q0, q1, q2, q3, q4, q5, q6, q7, q8, qf]) rfl ?_
      rw [HD.out]
      first | exact ⟨_, rfl, ⟨_, sltR_nil _ _ 3 0 0 0 0 0 0 0⟩, by (repeat (first | refine bset ?_ (by simp; omega) _ | refine bset ?_ (by simp) _ | refine balloc ?_ _ | assumption))⟩ | exact ⟨_, _, rfl, sltR_nil _ _ 3 0 0 0 0 0 0 0, by (repeat (first | refine bset ?_ (by simp; omega) _ | refine bset ?_ (by simp) _ | refine balloc ?_ _ | assumption))⟩
    have hr : (inB b 0 1000 && inB vl 1 2) = true := by rw [h1, h2]; rfl
    go_wp2_with (first | (go_at_call 25; refine (l8Ballot_any _ _).mono ?_; rintro e w' ⟨rfl, hw'⟩; obtain rfl := hw'.symm; rw [h1]) | (go_at_call 26; refine (l8Value_any _ _).mono ?_; rintro e w' ⟨rfl, hw'⟩; obtain rfl := hw'.symm; rw [h2]) | fail)
    refine (l8Accept_u _ d ⟨b, vl⟩ _ (sltR.below hX hB1) hl6).mono ?_
    rintro e w2 ⟨u, rfl, hb2, hu1, hu2⟩
    have hB2 : Below w.heap.size w w2 := bstep hB1 hb2
    replace y0 := cell_keep hb2 y0
    replace y1 := cell_keep hb2 y1
    replace y2 := cell_keep hb2 y2
    replace y3 := cell_keep hb2 y3
    replace y4 := cell_keep hb2 y4
    replace y5 := cell_keep hb2 y5
    replace yf : ∀ o, w2.frozen? ⟨w.heap.size, o, none⟩ = false := fun o => by rw [(bcell hb2).2 _ _ (by omega)]; exact yf o
    replace q0 := cell_keep hb2 q0
    replace q1 := cell_keep hb2 q1
    replace q2 := cell_keep hb2 q2
    replace q3 := cell_keep hb2 q3
    replace q4 := cell_keep hb2 q4
    replace q5 := cell_keep hb2 q5
    replace q6 := cell_keep hb2 q6
    replace q7 := cell_keep hb2 q7
    replace q8 := cell_keep hb2 q8
    replace qf : ∀ o, w2.frozen? ⟨w.heap.size + 1, o, none⟩ = false := fun o => by rw [(bcell hb2).2 _ _ (by omega)]; exact qf o
    have hs2 := hb2.size
    have zz0 : w.heap.size < w2.heap.size := World.block_lt_of_cell? w2 _ y0
    have zz1 : w.heap.size + 1 < w2.heap.size := World.block_lt_of_cell? w2 _ q0
    clear hb2 hB1
    by_cases hc : accC d ⟨b, vl⟩ = 0
    · have HD : Hid (accD d b vl = ⟨0, d.lb, d.lv, accS d ⟨b, vl⟩⟩) := accD_ok HF.out hr hc
      obtain ⟨F2, o2⟩ := hu2 hc
      rw [hc]
      clear hc hu1 hu2
      generalize accS d ⟨b, vl⟩ = s at *
      obtain ⟨u2, F1, rfl, ov, hF⟩ := o2
      obtain ⟨a2, c2, rfl⟩ := vots_form (votsR.ofO ov)
      clear hF hX
      go_wp2
      refine bodyPost_ret (v := .agg #[.int .i64 0, .int .i64 d.lb, .int .i64 d.lv, .int .i64 s.con, .int .i64 s.sh, .int .i64 s.pr, .int .i64 s.lb, .int .i64 s.lv, .slice a2 s.cast.length c2]) (by simp [results, Tryz.results66, go_sem, q0, q1, q2, q3, q4, q5, q6, q7, q8, qf, zz0, zz1]) rfl ?_
      rw [HD.out]
      refine ⟨_, fun b => F1 b, rfl, ?_, ?_⟩
      · refine ⟨.slice a2 s.cast.length c2, fun b => F1 b, rfl, ?_, fun b => Iff.rfl⟩
        refine ⟨.slice a2 s.cast.length c2, F1, rfl, ?_, fun b => Iff.rfl⟩
        refine votsR.base (base := w1.heap.size) ?_ (by omega)
        refine Rep.alloc _ ?_ _
        iterate 9 (refine Rep.set _ ?_ _ (by simp; omega))
        exact ov
      · skip
        refine balloc ?_ _
        iterate 9 (refine bset ?_ (by simp) _)
        exact hB2
    · have HD : Hid (accD d b vl = errS (accC d ⟨b, vl⟩)) := accD_code HF.out hr hc
      obtain rfl := hu1 hc
      generalize accC d ⟨b, vl⟩ = c at *
      clear hu1 hu2
      go_wp2
      refine bodyPost_ret (v := .agg #[.int .i64 c, .int .i64 0, .int .i64 0, .int .i64 0, .int .i64 0, .int .i64 0, .int .i64 0, .int .i64 0, .slice none 0 0]) (by simp [results, Tryz.results66, go_sem, q0, q1, q2, q3, q4, q5, q6, q7, q8, qf, zz0, zz1]) rfl ?_
      rw [HD.out]
      refine ⟨_, _, rfl, sltR_nil _ _ c 0 0 0 0 0 0 0, ?_⟩
      refine balloc ?_ _
      iterate 9 (refine bset ?_ (by simp) _)
      exact hB2
  · have HD : Hid (accD d b vl = errS (sltFault d)) := accD_fault hf
    generalize sltFault d = c at *
    go_wp2
    refine bodyPost_ret (v := .agg #[.int .i64 c, .int .i64 0, .int .i64 0, .int .i64 0, .int .i64 0, .int .i64 0, .int .i64 0, .int .i64 0, .slice none 0 0]) (by simp [results, Tryz.results66, go_sem, q0, q1, q2, q3, q4, q5, q6, q7, q8, qf]) rfl ?_
    rw [HD.out]
    first | exact ⟨_, rfl, ⟨_, sltR_nil _ _ c 0 0 0 0 0 0 0⟩, by (repeat (first | refine bset ?_ (by simp; omega) _ | refine bset ?_ (by simp) _ | refine balloc ?_ _ | assumption))⟩ | exact ⟨_, _, rfl, sltR_nil _ _ c 0 0 0 0 0 0 0, by (repeat (first | refine bset ?_ (by simp; omega) _ | refine bset ?_ (by simp) _ | refine balloc ?_ _ | assumption))⟩
end Go.Proofs.YtncmdeijimgchaaGreat

/-
  An acceptor copied, the program's.
-/
set_option linter.unusedSimpArgs false
set_option linter.unusedVariables false
namespace Go.Proofs.YtncmdeijimgchaaGreat
open Go.RowKit
set_option linter.unusedSectionVars false
variable [DecidableEq Vot] [Inhabited Vot] [DecidableEq Slt] [Inhabited Slt] [DecidableEq Bal] [Inhabited Bal] [DecidableEq Ledg] [Inhabited Ledg] [DecidableEq Leg] [Inhabited Leg] [DecidableEq Acc] [Inhabited Acc] [DecidableEq SltR] [Inhabited SltR] [DecidableEq AccR] [Inhabited AccR] [DecidableEq AccsR] [Inhabited AccsR] [DecidableEq SltsR] [Inhabited SltsR]
attribute [local go_sem ↓] Go.wp_at_zero Go.wp_at_succ

theorem slts_nil (w : World) (base : Nat) : sltsR.O w base (fun _ => False) (.slice none 0 0) [] :=
  ⟨[], fun _ => default, fun _ _ => False, ⟨World.ownsRow_nil _ _ _ _, fun i hi => absurd hi (Nat.not_lt_zero _), fun i hi => absurd hi (Nat.not_lt_zero _), fun i hi => absurd hi (Nat.not_lt_zero _), fun i hi => absurd hi (Nat.not_lt_zero _), fun i j hi => absurd hi (Nat.not_lt_zero _)⟩, fun b => ⟨fun h => h.elim, fun h => h.elim (fun h => noOwn h) (fun ⟨i, hi, _⟩ => absurd hi (Nat.not_lt_zero _))⟩⟩
set_option maxRecDepth 20000 in
set_option maxHeartbeats 4000000 in
theorem copEachS_u (x : Value) (xs : List Slt) (w : World) (hx : sltsR.V w x xs) (hn : xs.length ≤ 1048576) (hw : ∀ k, k < xs.length → (xs.getD k default).cast.length ≤ 1048576) :
    Calls Tryz.prog 70 #[x, .func (.func 71) #[] #[]] w fun e w' => ∃ v F, e = .returned v ∧ sltsR.O w' w.heap.size F v xs ∧ Below w.heap.size w w' := by
  obtain ⟨au, cu, rfl, hcx, hmx, hx⟩ := hx
  unfold maxLen at hmx
  have hXs : Hid (∀ k, k < xs.length → ∃ b o p q, au = some ⟨b, o, none⟩ ∧ (w.cell? ⟨b, o + k * 6, none⟩ = some (.int .i64 (xs.getD k default).con) ∧ w.cell? ⟨b, o + k * 6 + 1, none⟩ = some (.int .i64 (xs.getD k default).sh) ∧ w.cell? ⟨b, o + k * 6 + 2, none⟩ = some (.int .i64 (xs.getD k default).pr) ∧ w.cell? ⟨b, o + k * 6 + 3, none⟩ = some (.int .i64 (xs.getD k default).lb) ∧ w.cell? ⟨b, o + k * 6 + 4, none⟩ = some (.int .i64 (xs.getD k default).lv) ∧ w.cell? ⟨b, o + k * 6 + 5, none⟩ = some (.slice p (xs.getD k default).cast.length q)) ∧ sltR.V w (.agg #[.int .i64 (xs.getD k default).con, .int .i64 (xs.getD k default).sh, .int .i64 (xs.getD k default).pr, .int .i64 (xs.getD k default).lb, .int .i64 (xs.getD k default).lv, .slice p (xs.getD k default).cast.length q]) (xs.getD k default)) := fun k hk => slts_at hx hk
  have HW : Hid (∀ k, k < xs.length → (xs.getD k default).cast.length ≤ 1048576) := hw
  clear hx hw
  obtain ⟨n, hn'⟩ : ∃ n, n = xs.length := ⟨_, rfl⟩
  have HN : Hid (xs.length = n) := hn'.symm
  rw [← hn'] at hcx hXs HW hn ⊢
  clear hn'
  have eg := enters_of Tryz.func71 (by kernel_rfl) rfl
  go_enter Tryz.func70, Tryz.ntmps70
  go_wp2
  go_loopw [5, 10] (fun s i w' => ∃ (k : Nat) (a : Option Addr) (c : Nat) (F : Nat → Prop), k ≤ n ∧ i = .int .i64 k ∧ s = .slice a k c ∧ Hid (sltsR.O w' w.heap.size F (.slice a k c) (xs.take k)) ∧ Below w.heap.size w w') (fun s i _ => n - (intOf i).toNat)
  case atStart => exact ⟨0, none, 0, _, Nat.zero_le _, rfl, rfl, slts_nil _ _, by (repeat (first | exact Below.refl _ _ | assumption | refine Below.drew ?_ | refine balloc ?_ _ | refine bset ?_ (by simp; omega) _ | refine bset ?_ (by simp) _ | refine bstep ?_ (by assumption)))⟩
  case round =>
    obtain ⟨k, as_, cs_, F, hk, rfl, rfl, HO, hbl⟩ := hrel
    have zr := hbl.size
    by_cases hlt : k < n
    · obtain ⟨b, o, pp, qq, rfl, hc, hV⟩ := hXs.out k hlt
      have hcw := HW.out k hlt
      obtain ⟨l, hl⟩ : ∃ l, l = xs.getD k default := ⟨_, rfl⟩
      rw [← hl] at hc hV hcw
      have HL : Hid (xs.take (k + 1) = xs.take k ++ [l]) := by
        show _ = _
        rw [List.take_succ_eq_append_getElem (by rw [HN.out]; exact hlt), hl]
        simp [List.getD, show k < xs.length by rw [HN.out]; exact hlt]
      clear hl
      obtain ⟨g0, g1, g2, g3, g4, g5⟩ := (sltKeep2 hbl hc hc).2.1
      clear hc
      have zb : b < wr.heap.size := World.block_lt_of_cell? wr _ g0
      have HCp : Hid (∀ W, Below w.heap.size w W → Calls Tryz.prog 71 #[.agg #[.int .i64 l.con, .int .i64 l.sh, .int .i64 l.pr, .int .i64 l.lb, .int .i64 l.lv, .slice pp l.cast.length qq]] W fun e w' => ∃ v F, e = .returned v ∧ sltR.O w' W.heap.size F v l ∧ Below W.heap.size W w') := fun W hW => copied8_u _ l W (sltR.below hV hW) hcw
      clear hV
      go_wp2_with fail
      refine (HCp.out _ (by (repeat (first | exact Below.refl _ _ | assumption | refine Below.drew ?_ | refine balloc ?_ _ | refine bset ?_ (by simp; omega) _ | refine bset ?_ (by simp) _ | refine bstep ?_ (by assumption))))).mono ?_
      rintro e w2 ⟨v2, F2, rfl, o2, hb2⟩
      obtain ⟨a2, c2, rfl, _⟩ := slt_cells o2
      have hz2 := hb2.size
      simp at hz2
      have hB2 : Below wr.heap.size wr w2 := by (repeat (first | exact Below.refl _ _ | assumption | refine Below.drew ?_ | refine balloc ?_ _ | refine bset ?_ (by simp; omega) _ | refine bset ?_ (by simp) _ | refine bstep ?_ (by assumption)))
      have HO2 : Hid (sltsR.O w2 w.heap.size F (.slice as_ k cs_) (xs.take k)) := sltsR.keep HO.out hB2
      have HFl : Hid (∀ b, F b → b < wr.heap.size) := fun b hb => (sltsR.rng HO.out b hb).2
      have HF2 : Hid (∀ b, F2 b → wr.heap.size + 1 ≤ b) := fun b hb => by have := (sltR.rng o2 b hb).1; simpa using this
      have HU : Hid (sltR.O w2 w.heap.size F2 (.agg #[.int .i64 l.con, .int .i64 l.sh, .int .i64 l.pr, .int .i64 l.lb, .int .i64 l.lv, .slice a2 l.cast.length c2]) l) := sltR.base o2 (by simp; omega)
      have hB3 : Below w.heap.size w w2 := bstep hbl hB2
      clear hb2 o2 HCp HO g0 g1 g2 g3 g4 g5 hB2
      go_wp2_with (at_builtin; refine wpl_appS _ rfl _ _ rfl w.heap.size F F2 _ (xs.take k) l w2.heap.size a2 c2 rfl rfl ?a1 ?a2 ?a3 ?a4 ?a5 ?a6 ?_)
      case a1 => exact sltsR.alloc HO2.out _
      case a2 => exact sltR.alloc HU.out _
      case a3 => exact fun b h1 h2 => by have := HFl.out b h1; have := HF2.out b h2; omega
      case a4 => simp [go_sem]
      case a5 => rw [List.length_take, HN.out]; omega
      case a6 => simp; omega
      intro v3 w3 F3 o3 hb3 _
      rw [← HL.out] at o3
      obtain ⟨a3, c3, e3⟩ := slts_form (sltsR.ofO o3)
      rw [show (xs.take (k + 1)).length = k + 1 by rw [List.length_take, HN.out]; omega] at e3
      subst e3
      have HO3 : Hid (sltsR.O w3 w.heap.size F3 (.slice a3 (k + 1) c3) (xs.take (k + 1))) := o3
      have hB5 : Below w.heap.size w w3 := Below.trans (balloc hB3 _) hb3
      clear o3 hb3
      go_wp2
      exact ⟨⟨k + 1, a3, c3, F3, by omega, by go_num, rfl, HO3, hB5⟩, by simp [intOf]; omega⟩
    · have hkn : k = n := by omega
      subst hkn
      have ho := HO.out
      rw [List.take_of_length_le (by rw [HN.out]; exact Nat.le_refl _)] at ho
      go_wp2
      go_ret
      exact ⟨_, F, rfl, ho, hbl⟩
set_option maxRecDepth 20000 in
set_option maxHeartbeats 4000000 in
theorem copiedAcc_u (x : Value) (d : Acc) (w : World) (hx : accR.V w x d) (hn : d.slots.length ≤ 1048576) (hw : ∀ k, k < d.slots.length → (d.slots.getD k default).cast.length ≤ 1048576) :
    Calls Tryz.prog 37 #[x] w fun e w' => ∃ v F, e = .returned v ∧ accR.O w' w.heap.size F v d ∧ Below w.heap.size w w' := by
  obtain ⟨u1, rfl, hx⟩ := hx
  have HC : Hid (∀ W, Below w.heap.size w W → Calls Tryz.prog 70 #[u1, .func (.func 71) #[] #[]] W fun e w' => ∃ v F, e = .returned v ∧ sltsR.O w' W.heap.size F v d.slots ∧ Below W.heap.size W w') := fun W hW => copEachS_u _ d.slots W (sltsR.below hx hW) hn hw
  obtain ⟨au, cu, rfl⟩ := slts_form hx
  clear hx hn hw
  go_enter Tryz.func37, Tryz.ntmps37
  go_wp2_with fail
  refine (HC.out _ (by (repeat (first | exact Below.refl _ _ | assumption | refine Below.drew ?_ | refine balloc ?_ _ | refine bset ?_ (by simp; omega) _ | refine bset ?_ (by simp) _ | refine bstep ?_ (by assumption))))).mono ?_
  rintro e w1 ⟨v1, F, rfl, o1, hb1⟩
  have r0 : w1.cell? ⟨w.heap.size + 1, 0, none⟩ = some (.slice none 0 0) := cell_keep hb1 (by simp [go_sem])
  have rf : ∀ o, w1.frozen? ⟨w.heap.size + 1, o, none⟩ = false := fun o => by rw [(bcell hb1).2 _ _ (by simp)]; simp [go_sem]
  have hB1 : Below w.heap.size w w1 := by (repeat (first | exact Below.refl _ _ | assumption | refine Below.drew ?_ | refine balloc ?_ _ | refine bset ?_ (by simp; omega) _ | refine bset ?_ (by simp) _ | refine bstep ?_ (by assumption)))
  obtain ⟨a1, c1, e1⟩ := slts_form (sltsR.ofO o1)
  subst e1
  have HR : Hid (∀ b, F b → w.heap.size + 2 ≤ b) := fun b hb => by have := (sltsR.rng o1 b hb).1; simpa using this
  have HO : Hid (sltsR.O w1 w.heap.size F (.slice a1 d.slots.length c1) d.slots) := sltsR.base o1 (by simp; omega)
  clear o1 hb1 HC
  go_wp2
  refine bodyPost_ret (v := .agg #[.slice a1 d.slots.length c1]) ?_ rfl ⟨_, F, rfl, ⟨_, F, rfl, ?_, fun b => Iff.rfl⟩, by (repeat (first | refine bset ?_ (by simp; omega) _ | refine bset ?_ (by simp) _ | refine balloc ?_ _ | assumption))⟩
  · simp [results, Tryz.results37, go_sem, r0, rf]
  · exact Rep.setN _ HO.out _ (fun hb => by have := HR.out _ hb; simp at this)
end Go.Proofs.YtncmdeijimgchaaGreat

