import Derived.Test.YteebglgbeijolaaPrnTablesLaw6
import Derived.Test.YteebglgbeijolaaPrnTablesLaw1
import Derived.Laws.BytesArg
import Derived.Deep.DrawnRows
import Derived.Test.YteebglgbeijolaaPrnTablesLaw3
import Derived.Test.YteebglgbeijolaaPrnTablesLaw2

/-
  What counts at a version: lastAt, as an iterator.
-/
namespace Go.Proofs.Yteebglgbeijolaa
open Go.RowKit Go.Shelf
set_option linter.unusedSectionVars false
variable [DecidableEq Rw] [Inhabited Rw]
set_option linter.unusedVariables false
attribute [local go_sem] Oper.semAt_some
attribute [local go_sem] run_store_func

set_option maxHeartbeats 1000000 in
theorem values_any (a : Option Addr) (n c : Nat) (w : World) :
    Calls Try.prog 113 #[.slice a n c] w fun e w' => e = .returned (.func (.func 144) #[] #[.pointer (some ⟨w.heap.size, 0, none⟩)]) ∧ w' = w.alloc (.cells #[.slice a n c] 55) := by
  go_enter Try.func113, Try.ntmps113
  go_wp2
  go_ret
  exact ⟨rfl, rfl⟩
set_option maxHeartbeats 1000000 in
theorem all_any (a : Option Addr) (n c : Nat) (w : World) :
    Calls Try.prog 75 #[.agg #[.slice a n c, cmpF]] w fun e w' => e = .returned (.func (.func 144) #[] #[.pointer (some ⟨w.heap.size + 1, 0, none⟩)]) ∧
      w' = (w.alloc (.cells #[.slice a n c, cmpF] 122)).alloc (.cells #[.slice a n c] 55) := by
  unfold cmpF
  go_enter Try.func75, Try.ntmps75
  go_wp2_with (go_at_call 113; refine (values_any _ _ _ _).mono ?_; rintro e w' ⟨rfl, rfl⟩)
  go_ret
  exact ⟨by simp, rfl⟩
theorem Mod.frozen {F : Nat → Prop} {w w' : World} (h : Mod F w w') {a : Addr} (ha : a.block < w.heap.size) (hn : ¬ F a.block) : w'.frozen? a = w.frozen? a := by
  have := h.block a.block ha hn
  unfold World.frozen?
  rw [this]
def RowBox (lo : Nat) (mk : Nat → Act) (x : Rw) (a' : Act) (W : World) (Y : Nat → Prop) : Prop := ∃ B, lo ≤ B ∧ B < W.heap.size ∧ rowCells W B 0 x ∧ ¬ Y B ∧ a' = mk B
theorem RowBox_stb (lo : Nat) (mk : Nat → Act) (x : Rw) (a' : Act) : Stb (fun (_ : Unit) => RowBox lo mk x a') := by
  rintro _ W W' Y Y' ⟨B, hlo, hB, hr, hY, e⟩ hm hYY hYn
  have hs := hm.size
  refine ⟨B, hlo, by omega, rowCells_mod hm hY hr, fun h => ?_, e⟩
  rcases (hYn B h).1 with h3 | h3
  · exact hY h3
  · omega
end Go.Proofs.Yteebglgbeijolaa

/-
  Tables, in mathematics: keys rise; what counts at a version; what is read.
-/
namespace Go.Proofs.Yteebglgbeijolaa
open Go.RowKit
set_option linter.unusedSectionVars false
variable [DecidableEq Rw] [Inhabited Rw]
set_option linter.unusedVariables false

theorem u8_cases (x y : UInt8) : x < y ∨ x = y ∨ y < x := by
  rcases Nat.lt_trichotomy x.toNat y.toNat with h | h | h
  · exact .inl (UInt8.lt_iff_toNat_lt.2 h)
  · exact .inr (.inl (UInt8.toNat_inj.1 h))
  · exact .inr (.inr (UInt8.lt_iff_toNat_lt.2 h))
theorem u8_asymm {x y : UInt8} (h : x < y) : ¬ y < x := fun k => by
  rw [UInt8.lt_iff_toNat_lt] at h k
  omega
theorem u8_trans {x y z : UInt8} (h : x < y) (k : y < z) : x < z := by
  rw [UInt8.lt_iff_toNat_lt] at h k ⊢
  omega
theorem cb_lt {x y : UInt8} {a b : List UInt8} (h : x < y) : Lib.compareBytes (x :: a) (y :: b) = -1 := by
  unfold Lib.compareBytes
  rw [if_pos h]
theorem cb_gt {x y : UInt8} {a b : List UInt8} (h : y < x) : Lib.compareBytes (x :: a) (y :: b) = 1 := by
  unfold Lib.compareBytes
  rw [if_neg (u8_asymm h), if_pos h]
theorem cb_eq {x : UInt8} {a b : List UInt8} : Lib.compareBytes (x :: a) (x :: b) = Lib.compareBytes a b := by
  conv => lhs; unfold Lib.compareBytes
  rw [if_neg (UInt8.lt_irrefl x), if_neg (UInt8.lt_irrefl x)]
theorem cb_trans : ∀ a b c : List UInt8, Lib.compareBytes a b ≤ 0 → Lib.compareBytes b c ≤ 0 → Lib.compareBytes a c ≤ 0
  | [], _, [] => fun _ _ => by simp [Lib.compareBytes]
  | [], _, _ :: _ => fun _ _ => by simp [Lib.compareBytes]
  | _ :: _, [], _ => fun h _ => by simp [Lib.compareBytes] at h
  | _ :: _, _ :: _, [] => fun _ h => by simp [Lib.compareBytes] at h
  | x :: a, y :: b, z :: c => fun h k => by
    rcases u8_cases x y with h1 | rfl | h1
    · rcases u8_cases y z with k1 | rfl | k1
      · rw [cb_lt (u8_trans h1 k1)]
        omega
      · rw [cb_lt h1]
        omega
      · rw [cb_gt k1] at k
        omega
    · rcases u8_cases x z with k1 | rfl | k1
      · rw [cb_lt k1]
        omega
      · rw [cb_eq] at h k ⊢
        exact cb_trans a b c h k
      · rw [cb_gt k1] at k
        omega
    · rw [cb_gt h1] at h
      omega
theorem cb_anti : ∀ a b : List UInt8, Lib.compareBytes a b ≤ 0 → Lib.compareBytes b a ≤ 0 → a = b
  | [], [] => fun _ _ => rfl
  | [], _ :: _ => fun _ h => by simp [Lib.compareBytes] at h
  | _ :: _, [] => fun h _ => by simp [Lib.compareBytes] at h
  | x :: a, y :: b => fun h k => by
    rcases u8_cases x y with h1 | rfl | h1
    · rw [cb_gt h1] at k
      omega
    · rw [cb_eq] at h k
      rw [cb_anti a b h k]
    · rw [cb_gt h1] at h
      omega
def kle (a b : ByteArray) : Prop := cmpB a b ≤ 0
theorem kle_trans {a b c : ByteArray} (h : kle a b) (k : kle b c) : kle a c := cb_trans _ _ _ h k
theorem kle_anti {a b : ByteArray} (h : kle a b) (k : kle b a) : a = b := by
  have e := cb_anti _ _ h k
  exact (cmpB_zero a b).1 ((compareBytes_zero _ _).2 e)
theorem kle_ahead {a b : Rw} (h : ahead a b = true) : kle a.key b.key := by
  unfold ahead cmpR orI at h
  unfold kle
  simp only [decide_eq_true_eq] at h
  split at h <;> omega
theorem tabAt_zero {xs : List Rw} {j : Nat} (h : tabAt xs j = 0) : rowFault (xs.getD j default) = 0 ∧ (0 < j → ahead (xs.getD (j - 1) default) (xs.getD j default) = true) := by
  unfold tabAt at h
  split at h
  · rename_i h1
    exact absurd h h1
  · rename_i h1
    refine ⟨by simpa using h1, fun hj => ?_⟩
    split at h
    · omega
    · rename_i h2
      cases ha : ahead (xs.getD (j - 1) default) (xs.getD j default)
      · exact absurd ⟨hj, ha⟩ h2
      · rfl
end Go.Proofs.Yteebglgbeijolaa

/-
  RowsResult. (Written by program: nest.py.)
-/
namespace Go.Proofs.Yteebglgbeijolaa
open Go.RowKit
set_option linter.unusedSectionVars false
variable [DecidableEq Rw] [Inhabited Rw]
attribute [local go_sem ↓] Go.wp_at_zero Go.wp_at_succ

structure TabR where
  code : Int
  rows : List Rw
variable [DecidableEq TabR] [Inhabited TabR]

def tabRR : Rep TabR where
  V := fun w v x => ∃ u1, v = .agg #[.int .i64 x.code, u1] ∧ rowsR.V w u1 x.rows
  O := fun w base F v x => ∃ u1 F1, v = .agg #[.int .i64 x.code, u1] ∧ rowsR.O w base F1 u1 x.rows ∧ (∀ b, F b ↔ (F1 b))
  below := fun h hb => by
    obtain ⟨u1, rfl, h1⟩ := h
    exact ⟨u1, rfl, rowsR.below h1 hb⟩
  ofO := fun h => by
    obtain ⟨u1, F1, rfl, h1, _⟩ := h
    exact ⟨u1, rfl, rowsR.ofO h1⟩
  mod := fun h hm hd => by
    obtain ⟨u1, F1, rfl, h1, hF⟩ := h
    exact ⟨u1, F1, rfl, rowsR.mod h1 hm (fun b hb => hd b ((hF b).2 hb)), hF⟩
  rng := fun h b hb => by
    obtain ⟨u1, F1, rfl, h1, hF⟩ := h
    rcases (hF b).1 hb with hb
    · exact rowsR.rng h1 b hb
  base := fun h hb => by
    obtain ⟨u1, F1, rfl, h1, hF⟩ := h
    exact ⟨u1, F1, rfl, rowsR.base h1 hb, hF⟩
theorem tabR_form {w : World} {v : Value} {x : TabR} (h : tabRR.V w v x) : ∃ a1 c1, v = .agg #[.int .i64 x.code, .slice a1 x.rows.length c1] := by
  obtain ⟨u1, rfl, h1⟩ := h
  obtain ⟨a1, c1, rfl⟩ := rows_form h1
  exact ⟨_, _, rfl⟩
end Go.Proofs.Yteebglgbeijolaa

/-
  One row more behind rows, in a region that draws its order.
-/
namespace Go.Proofs.Yteebglgbeijolaa
open Go.RowKit
set_option linter.unusedSectionVars false
variable [DecidableEq Rw] [Inhabited Rw] [DecidableEq TabR] [Inhabited TabR]
set_option linter.unusedVariables false
set_option linter.unusedSimpArgs false
attribute [local go_sem ↓] Go.wp_at_zero Go.wp_at_succ

theorem rwsC_snoc (xs : List Rw) (l : Rw) : rwsC (xs ++ [l]) = rwsC xs ++ rowC l := by simp [rwsC]
theorem rowC_one (l : Rw) : ∀ u ∈ rowC l, u.oneCell' = true := by
  intro u hu
  simp only [rowC, List.mem_cons, List.not_mem_nil, or_false] at hu
  rcases hu with rfl | rfl | rfl | rfl <;> rfl
theorem tabRR_nil (w : World) (base : Nat) (c : Int) : ∃ F, tabRR.O w base F (.agg #[.int .i64 c, .slice none 0 0]) ⟨c, []⟩ :=
  ⟨_, _, _, rfl, ⟨⟨World.ownsRow_nil _ _ _ _, rfl⟩, fun i hi => by simp at hi⟩, fun _ => Iff.rfl⟩
theorem tabRR_of {w : World} {base : Nat} {v : Value} {c : Int} {ys : List Rw} (h : w.ownsRow base 61 4 v ys.length (rwsC ys)) (hf : Fit ys) : ∃ F, tabRR.O w base F (.agg #[.int .i64 c, v]) ⟨c, ys⟩ :=
  ⟨_, _, _, rfl, ⟨⟨h, rfl⟩, hf⟩, fun _ => Iff.rfl⟩
end Go.Proofs.Yteebglgbeijolaa

