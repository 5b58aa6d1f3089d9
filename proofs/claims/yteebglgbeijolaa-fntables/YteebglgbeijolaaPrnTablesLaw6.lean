import Derived.Test.YteebglgbeijolaaPrnTablesLaw5
import Derived.Test.YteebglgbeijolaaPrnTablesLaw1
import Derived.Lib.Bytealg
import Derived.Lib.Walk
import Derived.Shelf.Abstract
import Derived.WalkKit
import Derived.OwnWalkIn
import Derived.TacticsInMore
import Derived.LoopNIn
import Derived.LoopIn

/-
  Rows of a table, in a slice: read, owned, copied, compared, counted. (Written by program: tab_gen.py.)
-/
namespace Go.Proofs.Yteebglgbeijolaa
open Go.RowKit
set_option linter.unusedSectionVars false
variable [DecidableEq Rw] [Inhabited Rw]
attribute [local go_sem ↓] Go.wp_at_zero Go.wp_at_succ

def rowCells (w : World) (b o : Nat) (x : Rw) : Prop := w.cell? ⟨b, o, none⟩ = some (.string x.key) ∧ w.cell? ⟨b, o + 1, none⟩ = some (.int .i64 x.ver) ∧ w.cell? ⟨b, o + 2, none⟩ = some (.string x.val) ∧ w.cell? ⟨b, o + 3, none⟩ = some (.bool x.gone)
def Fit (xs : List Rw) : Prop := ∀ i, i < xs.length → (xs.getD i default).key.size ≤ maxLen ∧ (xs.getD i default).val.size ≤ maxLen
def RowsV (w : World) (v : Value) (xs : List Rw) : Prop :=
  ∃ a cap, v = .slice a xs.length cap ∧ xs.length ≤ cap ∧ cap ≤ maxLen ∧ ∀ i, i < xs.length → ∃ b o, a = some ⟨b, o, none⟩ ∧ rowCells w b (o + i * 4) (xs.getD i default)
theorem rowCells_below {w w' : World} {b o : Nat} {x : Rw} (hb : Below w.heap.size w w') (h : rowCells w b o x) : rowCells w' b o x := by
  obtain ⟨h0, h1, h2, h3⟩ := h
  exact ⟨cell_keep hb h0, cell_keep hb h1, cell_keep hb h2, cell_keep hb h3⟩
theorem RowsV_below {w w' : World} {v : Value} {xs : List Rw} (h : RowsV w v xs) (hb : Below w.heap.size w w') : RowsV w' v xs := by
  obtain ⟨a, cap, rfl, h1, h2, h3⟩ := h
  exact ⟨a, cap, rfl, h1, h2, fun i hi => by
    obtain ⟨b, o, ha, hc⟩ := h3 i hi
    exact ⟨b, o, ha, rowCells_below hb hc⟩⟩
theorem rowKeep2 {w w' : World} {b o b' o' : Nat} {x y : Rw} (hb : Below w.heap.size w w') (h : rowCells w b o x) (h' : rowCells w b' o' y) :
    Below w.heap.size w w' ∧ (w'.cell? ⟨b, o, none⟩ = some (.string x.key) ∧ w'.cell? ⟨b, o + 1, none⟩ = some (.int .i64 x.ver) ∧ w'.cell? ⟨b, o + 2, none⟩ = some (.string x.val) ∧ w'.cell? ⟨b, o + 3, none⟩ = some (.bool x.gone)) ∧ (w'.cell? ⟨b', o', none⟩ = some (.string y.key) ∧ w'.cell? ⟨b', o' + 1, none⟩ = some (.int .i64 y.ver) ∧ w'.cell? ⟨b', o' + 2, none⟩ = some (.string y.val) ∧ w'.cell? ⟨b', o' + 3, none⟩ = some (.bool y.gone)) :=
  ⟨hb, rowCells_below hb h, rowCells_below hb h'⟩
def rowC (x : Rw) : List Value := [.string x.key, .int .i64 x.ver, .string x.val, .bool x.gone]
def rwsC (xs : List Rw) : List Value := xs.flatMap rowC
theorem infoRw : (Try.prog.info? 61).map (fun i => (i.zero, i.size, i.bytes)) = some (some (.agg #[.string ⟨#[]⟩, .int .i64 0, .string ⟨#[]⟩, .bool false]), 4, 48) := by kernel_rfl
theorem length_rwsC (xs : List Rw) : (rwsC xs).length = xs.length * 4 := by
  induction xs with
  | nil => rfl
  | cons x r ih =>
    have e : rwsC (x :: r) = rowC x ++ rwsC r := by simp [rwsC]
    have l4 : (rowC x).length = 4 := rfl
    rw [e, List.length_append, l4, ih, List.length_cons]
    omega
theorem get_rwsC (xs : List Rw) : ∀ i, i < xs.length → (rwsC xs)[i * 4]? = some (.string (xs.getD i default).key) ∧ (rwsC xs)[i * 4 + 1]? = some (.int .i64 (xs.getD i default).ver) ∧ (rwsC xs)[i * 4 + 2]? = some (.string (xs.getD i default).val) ∧ (rwsC xs)[i * 4 + 3]? = some (.bool (xs.getD i default).gone) := by
  induction xs with
  | nil => intro i h; simp at h
  | cons x r ih =>
    intro i h
    cases i with
    | zero => simp [rwsC, rowC]
    | succ i =>
      have := ih i (by simpa using h)
      have e : rwsC (x :: r) = rowC x ++ rwsC r := by simp [rwsC]
      have l4 : (rowC x).length = 4 := rfl
      rw [e]
      refine ⟨?_, ?_, ?_, ?_⟩
      all_goals rw [List.getElem?_append_right (by omega), l4]
      · rw [show (i + 1) * 4 - 4 = i * 4 by omega]; simpa using this.1
      · rw [show (i + 1) * 4 + 1 - 4 = i * 4 + 1 by omega]; simpa using this.2.1
      · rw [show (i + 1) * 4 + 2 - 4 = i * 4 + 2 by omega]; simpa using this.2.2.1
      · rw [show (i + 1) * 4 + 3 - 4 = i * 4 + 3 by omega]; simpa using this.2.2.2
theorem RowsV_of_owns {w : World} {base e : Nat} {v : Value} {xs : List Rw} (h : w.ownsRow base e 4 v xs.length (rwsC xs)) : RowsV w v xs := by
  rcases h.2 with ⟨rfl, hn⟩ | ⟨g, cap, cur, rfl, hb, hg, hnc, hcm, hcs, htake⟩
  · exact ⟨none, 0, by rw [hn], by omega, by unfold maxLen; omega, fun i hi => by omega⟩
  · refine ⟨some ⟨g, 0, none⟩, cap, rfl, hnc, hcm, fun i hi => ⟨g, 0, rfl, ?_⟩⟩
    obtain ⟨h0, h1, h2, h3⟩ := get_rwsC xs i hi
    simp only [Nat.zero_add, rowCells]
    exact ⟨(h.cellAt _ (by omega)).trans h0, (h.cellAt _ (by omega)).trans h1, (h.cellAt _ (by omega)).trans h2, (h.cellAt _ (by omega)).trans h3⟩
theorem fit_mem {xs : List Rw} : Fit xs ↔ ∀ x ∈ xs, x.key.size ≤ maxLen ∧ x.val.size ≤ maxLen := by
  constructor
  · intro h x hx
    obtain ⟨i, hi, rfl⟩ := List.mem_iff_getElem.1 hx
    have := h i hi
    simpa [List.getD, hi] using this
  · intro h i hi
    have := h (xs[i]) (List.getElem_mem hi)
    simpa [List.getD, hi] using this
def rowsR : Rep (List Rw) where
  V := fun w v xs => RowsV w v xs ∧ Fit xs
  O := fun w base F v xs => (w.ownsRow base 61 4 v xs.length (rwsC xs) ∧ F = (fun b => v.ownBlock = some b)) ∧ Fit xs
  below := fun h hb => ⟨RowsV_below h.1 hb, h.2⟩
  ofO := fun h => ⟨RowsV_of_owns h.1.1, h.2⟩
  mod := fun h hm hd => ⟨⟨hm.owns h.1.1 (fun b hb => hd b (by rw [h.1.2]; exact hb)), h.1.2⟩, h.2⟩
  rng := fun h b hb => by rw [h.1.2] at hb; exact h.1.1.lt b hb
  base := fun h hb => ⟨⟨owns_base h.1.1 hb, h.1.2⟩, h.2⟩
theorem rows_form {w : World} {v : Value} {xs : List Rw} (h : rowsR.V w v xs) : ∃ a c, v = .slice a xs.length c := by
  obtain ⟨⟨a, c, rfl, _⟩, _⟩ := h
  exact ⟨_, _, rfl⟩
end Go.Proofs.Yteebglgbeijolaa

/-
  The order of rows, on both sides. (Written by program: tab_gen2.py.)
-/
namespace Go.Proofs.Yteebglgbeijolaa
open Go.RowKit
set_option linter.unusedSectionVars false
variable [DecidableEq Rw] [Inhabited Rw]
attribute [local go_sem ↓] Go.wp_at_zero Go.wp_at_succ

theorem bdrN {B : Nat} {w Y : World} (h : Below B w Y) (n : Nat) : Below B w (Y.drewN n) := h.trans ⟨rfl, rfl, rfl, Nat.le_refl _, fun _ _ => rfl⟩
def cmpB (a b : ByteArray) : Int := Lib.compareBytes a.data.toList b.data.toList
def cmpI (x y : Int) : Int := if x < y then -1 else if y < x then 1 else 0
def orI (x y : Int) : Int := if x = 0 then y else x
def cmpR (a b : Rw) : Int := orI (cmpB a.key b.key) (cmpI b.ver a.ver)
theorem compareBytes_zero : ∀ a b : List UInt8, Lib.compareBytes a b = 0 ↔ a = b
  | [], [] => by simp [Lib.compareBytes]
  | [], _ :: _ => by simp [Lib.compareBytes]
  | _ :: _, [] => by simp [Lib.compareBytes]
  | x :: a, y :: b => by
    unfold Lib.compareBytes
    by_cases h1 : x < y
    · rw [if_pos h1]
      have : ¬ x = y := fun e => by subst e; exact UInt8.lt_irrefl x h1
      simp [this]
    · rw [if_neg h1]
      by_cases h2 : y < x
      · rw [if_pos h2]
        have : ¬ x = y := fun e => by subst e; exact UInt8.lt_irrefl x h2
        simp [this]
      · rw [if_neg h2, compareBytes_zero a b]
        have : x = y := UInt8.le_antisymm (UInt8.not_lt.1 h2) (UInt8.not_lt.1 h1)
        simp [this]
theorem bytesLess_cmp : ∀ a b : List UInt8, Op.bytesLess a b = decide (Lib.compareBytes a b < 0)
  | [], [] => by simp [Lib.compareBytes, Op.bytesLess]
  | [], _ :: _ => by simp [Lib.compareBytes, Op.bytesLess]
  | _ :: _, [] => by simp [Lib.compareBytes, Op.bytesLess]
  | x :: a, y :: b => by
    unfold Lib.compareBytes Op.bytesLess
    by_cases h1 : x < y
    · rw [if_pos h1]
      simp [h1]
    · rw [if_neg h1]
      by_cases h2 : y < x
      · rw [if_pos h2]
        have : ¬ x = y := fun e => by subst e; exact UInt8.lt_irrefl x h2
        simp [this, h1]
      · rw [if_neg h2, bytesLess_cmp a b]
        have : x = y := UInt8.le_antisymm (UInt8.not_lt.1 h2) (UInt8.not_lt.1 h1)
        simp [this]
theorem cmpB_zero (a b : ByteArray) : cmpB a b = 0 ↔ a = b := by
  unfold cmpB
  rw [compareBytes_zero]
  exact ⟨fun h => by cases a; cases b; simp only at h; rw [Array.toList_inj.1 h], fun h => by rw [h]⟩
theorem cmpB_neg (a b : ByteArray) : Op.bytesLess a.toList b.toList = decide (cmpB a b < 0) := by
  unfold cmpB
  rw [bytesLess_cmp, ByteArray.toList_eq, ByteArray.toList_eq]
def ahead (a b : Rw) : Bool := decide (cmpR a b < 0)
theorem ahead_key {a b : Rw} (h : a.key ≠ b.key) : ahead a b = Op.bytesLess a.key.toList b.key.toList := by
  unfold ahead cmpR orI
  rw [if_neg (fun e => h ((cmpB_zero _ _).1 e))]
  rw [cmpB_neg]
theorem ahead_ver {a b : Rw} (h : a.key = b.key) : ahead a b = decide (b.ver < a.ver) := by
  unfold ahead cmpR orI
  rw [if_pos ((cmpB_zero _ _).2 h)]
  unfold cmpI
  by_cases h1 : b.ver < a.ver
  · simp [h1]
  · rw [if_neg h1]
    split <;> simp [h1]
set_option maxHeartbeats 400000 in
theorem l5Ahead_any (x y : Rw) (w : World) :
    Calls Try.prog 119 #[rowV x, rowV y] w fun e w' => e = .returned (.bool (ahead x y)) ∧ Below w.heap.size w w' := by
  by_cases h : x.key = y.key
  · rw [ahead_ver h]
    have h' : (x.key.toList == y.key.toList) = true := by rw [h]; simp
    unfold rowV
    go_enter Try.func119, Try.ntmps119
    go_wp2
    go_ret
    exact ⟨rfl, balloc (balloc (Below.refl _ _) _) _⟩
  · rw [ahead_key h]
    have h' : (x.key.toList == y.key.toList) = false := by rw [beq_eq_false_iff_ne, Ne, tl_inj]; exact h
    unfold rowV
    go_enter Try.func119, Try.ntmps119
    go_wp2
    go_ret
    exact ⟨rfl, balloc (balloc (Below.refl _ _) _) _⟩
theorem isNaN_any (x : Int) (w : World) :
    Calls Try.prog 148 #[.int .i64 x] w fun e w' => e = .returned (.bool false) ∧ w' = w := by
  go_enter Try.func148, Try.ntmps148
  go_wp2
  go_ret
  exact ⟨rfl, rfl⟩
set_option maxHeartbeats 1000000 in
theorem cmpCompare_any (x y : Int) (w : World) :
    Calls Try.prog 117 #[.int .i64 x, .int .i64 y] w fun e w' => e = .returned (.int .i64 (cmpI x y)) ∧ w' = w := by
  go_enter Try.func117, Try.ntmps117
  go_wp2_with (go_at_call 148; refine (isNaN_any _ _).mono ?_; rintro e w' ⟨rfl, rfl⟩)
  all_goals (go_ret; refine ⟨?_, rfl⟩; unfold cmpI; (repeat' split) <;> first | rfl | (exfalso; omega))
set_option maxRecDepth 100000 in
set_option maxHeartbeats 1000000 in
theorem compareString_any (a b : ByteArray) (w : World) :
    Calls Try.prog 147 #[.string a, .string b] w fun e w' => e = .returned (.int .i64 (cmpB a b)) ∧ w' = w := by
  go_enter Try.func147, Try.ntmps147
  go_wp2
  rw [run_callFunc_extern Try.func166 (by kernel_rfl) (by kernel_rfl) (by kernel_rfl) (e := Extern.BytealgCompare.compare) (by kernel_rfl), Lib.run_compareString]
  simp only [Result.andThen]
  rw [Oper.upon_value]
  go_wp2
  go_ret
  exact ⟨rfl, rfl⟩
set_option maxHeartbeats 1000000 in
theorem stringsCompare_any (a b : ByteArray) (w : World) :
    Calls Try.prog 116 #[.string a, .string b] w fun e w' => e = .returned (.int .i64 (cmpB a b)) ∧ w' = w := by
  go_enter Try.func116, Try.ntmps116
  go_wp2_with (go_at_call 147; refine (compareString_any _ _ _).mono ?_; rintro e w' ⟨rfl, rfl⟩)
  go_ret
  exact ⟨rfl, rfl⟩
set_option maxHeartbeats 1000000 in
theorem cmpOr_any (b : Nat) (x y : Int) (w : World) (h0 : w.cell? ⟨b, 0, none⟩ = some (.int .i64 x)) (h1 : w.cell? ⟨b, 1, none⟩ = some (.int .i64 y)) :
    Calls Try.prog 115 #[.slice (some ⟨b, 0, none⟩) 2 2] w fun e w' => e = .returned (.int .i64 (orI x y)) ∧ w' = w := by
  go_enter Try.func115, Try.ntmps115
  go_wp2
  go_loopw [8] (fun i w' => ∃ k : Nat, k ≤ 2 ∧ i = .int .i64 k ∧ w' = w ∧ (0 < k → x = 0) ∧ (1 < k → y = 0)) (fun i _ => 2 - (intOf i).toNat)
  case atStart => exact ⟨0, by omega, rfl, rfl, by omega, by omega⟩
  case round =>
    obtain ⟨k, hk, rfl, rfl, p0, p1⟩ := hrel
    rcases (show k = 0 ∨ k = 1 ∨ k = 2 by omega) with rfl | rfl | rfl
    · by_cases hx : x = 0
      · subst hx
        go_wp2
        exact ⟨⟨1, by omega, by go_num, by simp⟩, by simp [intOf]⟩
      · go_wp2
        go_ret
        refine ⟨?_, rfl⟩
        unfold orI
        rw [if_neg hx]
        rfl
    · have hx := p0 (by omega)
      subst hx
      by_cases hy : y = 0
      · subst hy
        go_wp2
        exact ⟨⟨2, by omega, by go_num, by simp⟩, by simp [intOf]⟩
      · go_wp2
        go_ret
        refine ⟨?_, rfl⟩
        unfold orI
        rw [if_pos rfl]
        rfl
    · have hx := p0 (by omega)
      have hy := p1 (by omega)
      subst hx hy
      go_wp2
      go_ret
      exact ⟨rfl, rfl⟩
set_option maxHeartbeats 1000000 in
theorem compareRows_any (x y : Rw) (w : World) :
    Calls Try.prog 77 #[rowV x, rowV y] w fun e w' => e = .returned (.int .i64 (cmpR x y)) ∧ Below w.heap.size w w' := by
  unfold rowV
  go_enter Try.func77, Try.ntmps77
  go_wp2
  go_region_held3 (fun w' => Below w.heap.size w w' ∧ w'.cell? ⟨w.heap.size, 0, none⟩ = some (.string x.key) ∧ w'.cell? ⟨w.heap.size, 1, none⟩ = some (.int .i64 x.ver) ∧ w'.cell? ⟨w.heap.size + 1, 0, none⟩ = some (.string y.key) ∧ w'.cell? ⟨w.heap.size + 1, 1, none⟩ = some (.int .i64 y.ver))
    ((refine ⟨?_, ?_, ?_, ?_, ?_⟩; (repeat (first | exact Below.refl _ _ | assumption | refine Below.drew ?_ | refine balloc ?_ _)); all_goals simp [go_sem]))
    (first | (go_at_call 116; refine (stringsCompare_any _ _ _).mono ?_; rintro e w' ⟨rfl, rfl⟩) | (go_at_call 117; refine (cmpCompare_any _ _ _).mono ?_; rintro e w' ⟨rfl, rfl⟩) | (go_at_call 115; refine (cmpOr_any _ (cmpB x.key y.key) (cmpI y.ver x.ver) _ ?_ ?_).mono ?_; simp [go_sem]; simp [go_sem]; rintro e w' ⟨rfl, rfl⟩))
  all_goals
    rename_i hH
    have hB := hH.1
    clear hH
    go_wp2
    go_ret
    exact ⟨rfl, hB⟩
def tabAt (xs : List Rw) (k : Nat) : Int :=
  if rowFault (xs.getD k default) ≠ 0 then rowFault (xs.getD k default) else if 0 < k ∧ ahead (xs.getD (k - 1) default) (xs.getD k default) = false then 1 else 0
def tabF (xs : List Rw) : Int :=
  if 200 < xs.length then 2 else (((List.range xs.length).map (tabAt xs)).find? (fun c => decide (c ≠ 0))).getD 0
theorem tabF_at {xs : List Rw} {k : Nat} (hn : xs.length ≤ 200) (hk : k < xs.length) (h : ∀ j, j < k → tabAt xs j = 0) (hc : tabAt xs k ≠ 0) : tabF xs = tabAt xs k := by
  unfold tabF
  rw [if_neg (by omega)]
  have e : (List.range xs.length).map (tabAt xs) = (List.range k).map (tabAt xs) ++ tabAt xs k :: (List.range (xs.length - k - 1)).map (fun i => tabAt xs (k + 1 + i)) := by
    apply List.ext_getElem
    · simp; omega
    intro i h1 h2
    simp only [List.getElem_map, List.getElem_range, List.getElem_append, List.length_map, List.length_range]
    split
    · rfl
    · rename_i hik
      obtain ⟨d, rfl⟩ : ∃ d, i = k + d := ⟨i - k, by omega⟩
      cases d with
      | zero => simp
      | succ d => simp [show k + (d + 1) - k = d + 1 by omega, Nat.add_comm, Nat.add_left_comm]
  rw [e, List.find?_append]
  have e2 : ((List.range k).map (tabAt xs)).find? (fun c => decide (c ≠ 0)) = none := by
    rw [List.find?_eq_none]
    intro c hc'
    obtain ⟨j, hj, rfl⟩ := List.mem_map.1 hc'
    simp [h j (List.mem_range.1 hj)]
  rw [e2, Option.none_or, List.find?_cons_of_pos (by simpa using hc)]
  rfl
theorem tabF_zero {xs : List Rw} (hn : xs.length ≤ 200) (h : ∀ j, j < xs.length → tabAt xs j = 0) : tabF xs = 0 := by
  unfold tabF
  rw [if_neg (by omega)]
  have e2 : ((List.range xs.length).map (tabAt xs)).find? (fun c => decide (c ≠ 0)) = none := by
    rw [List.find?_eq_none]
    intro c hc'
    obtain ⟨j, hj, rfl⟩ := List.mem_map.1 hc'
    simp [h j (List.mem_range.1 hj)]
  rw [e2]
  rfl
theorem tabF_all {xs : List Rw} (h : tabF xs = 0) : xs.length ≤ 200 ∧ ∀ j, j < xs.length → tabAt xs j = 0 := by
  unfold tabF at h
  split at h
  · cases h
  · refine ⟨by omega, fun j hj => ?_⟩
    cases hf : ((List.range xs.length).map (tabAt xs)).find? (fun c => decide (c ≠ 0)) with
    | none =>
      rw [List.find?_eq_none] at hf
      have := hf (tabAt xs j) (List.mem_map.2 ⟨j, List.mem_range.2 hj, rfl⟩)
      simpa using this
    | some c =>
      rw [hf] at h
      have := List.find?_some hf
      simp at this h
      exact absurd h this
set_option maxHeartbeats 2000000 in
theorem specTableFault_any (x : Value) (xs : List Rw) (w : World) (hx : RowsV w x xs) :
    Calls Try.prog 78 #[x] w fun e w' => e = .returned (.int .i64 (tabF xs)) ∧ Below w.heap.size w w' := by
  obtain ⟨ax, cx, rfl, hcx, hmx, hx⟩ := hx
  unfold maxLen at hmx
  by_cases hn : 200 < xs.length
  · have e : tabF xs = 2 := by unfold tabF; rw [if_pos hn]
    rw [e]
    clear e hx
    generalize xs.length = n at *
    have h1 : (200 : Int) < n := by omega
    go_enter Try.func78, Try.ntmps78
    go_wp2
    go_ret
    exact ⟨rfl, Below.refl _ _⟩
  have HZ : Hid ((∀ j, j < xs.length → tabAt xs j = 0) → tabF xs = 0) := tabF_zero (by omega)
  have HC : Hid (∀ k, k < xs.length → (∀ j, j < k → tabAt xs j = 0) → tabAt xs k ≠ 0 → tabF xs = tabAt xs k) := fun k hk h hc => tabF_at (by omega) hk h hc
  generalize xs.length = n at *
  have h1 : ¬ (200 : Int) < n := by omega
  go_enter Try.func78, Try.ntmps78
  go_wp2
  go_loopw [3] (fun i w' => ∃ k : Nat, k ≤ n ∧ i = .int .i64 k ∧ Hid (∀ j, j < k → tabAt xs j = 0) ∧ Below w.heap.size w w') (fun i _ => n - (intOf i).toNat)
  case atStart => exact ⟨0, Nat.zero_le _, rfl, fun j h => absurd h (Nat.not_lt_zero _), Below.refl _ _⟩
  case round =>
    obtain ⟨k, hk, rfl, HP, hbl⟩ := hrel
    by_cases hlt : k < n
    · obtain ⟨bx, ox, rfl, h2⟩ := hx k hlt
      have HC2 : Hid (tabAt xs k ≠ 0 → tabF xs = tabAt xs k) := fun hc => HC.out k hlt HP.out hc
      have HK : Hid (tabAt xs k = if rowFault (xs.getD k default) ≠ 0 then rowFault (xs.getD k default) else if 0 < k ∧ ahead (xs.getD (k - 1) default) (xs.getD k default) = false then 1 else 0) := rfl
      have HX : Hid (∀ i, i < n → ∃ b o, some (⟨bx, ox, none⟩ : Addr) = some ⟨b, o, none⟩ ∧ rowCells w b (o + i * 4) (xs.getD i default)) := hx
      obtain ⟨l, hl⟩ : ∃ l, l = xs.getD k default := ⟨_, rfl⟩
      rw [← hl] at h2 HK
      clear hl hx HC HZ
      obtain ⟨a0, a1, a2, a3⟩ := rowCells_below hbl h2
      go_wp2_with fail
      refine (specRowFault_any l _).mono ?_
      rintro e wa ⟨rfl, hba⟩
      have hB := bstep hbl hba
      by_cases hf : rowFault l = 0
      · rw [hf]
        have HK2 : Hid (tabAt xs k = if 0 < k ∧ ahead (xs.getD (k - 1) default) l = false then 1 else 0) := by
          rw [Hid, HK.out, if_neg (by simp [hf])]
        clear hf HK a0 a1 a2 a3
        by_cases hk0 : k = 0
        · subst hk0
          go_wp2
          go_quiet (fail)
          go_wp2
          refine ⟨⟨1, by omega, by go_num, fun j hj => ?_, bdrN hB _⟩, by simp [intOf]; omega⟩
          have : j = 0 := by omega
          subst this
          rw [HK2.out]
          simp
        · obtain ⟨m, hm⟩ : ∃ m, k - 1 = m := ⟨_, rfl⟩
          obtain ⟨bp, op, ep, h3⟩ := HX.out m (by omega)
          simp only [Option.some.injEq, Addr.mk.injEq, and_true] at ep
          obtain ⟨rfl, rfl⟩ := ep
          rw [hm] at HK2
          obtain ⟨l2, hl2⟩ : ∃ l, l = xs.getD m default := ⟨_, rfl⟩
          rw [← hl2] at h3 HK2
          clear hl2 HX
          have HM : Hid (0 < k) := by rw [Hid]; omega
          have hi1 : (0 : Int) < (k : Int) := by omega
          have hi0 : decide (0 < k) = true := decide_eq_true (by omega)
          have hi2 : IntKind.i64.wrap ((k : Int) - 1) = (m : Int) := by rw [IntKind.wrap_i64]; omega
          have hi3 : (m : Int) < n := by omega
          have hi4 : (0 : Int) ≤ m := by omega
          have hi5 : (0 : Int) ≤ k := by omega
          have hi6 : (k : Int) < n := by omega
          clear hm hk0
          have r1 := rowCells_below hB h2
          have r2 := rowCells_below hB h3
          have HT : Hid (∀ b, ahead l2 l = b → tabAt xs k = if b = false then 1 else 0) := fun b hb => by
            rw [HK2.out, hb]
            have := HM.out
            simp [this]
          clear HK2 h2 h3
          cases hah : ahead l2 l
          all_goals
            have HT2 : Hid _ := HT.out _ hah
            go_wp2
            go_region_held3 (fun w' => Below wa.heap.size wa w' ∧ (w'.cell? ⟨bx, ox + m * 4, none⟩ = some (.string l2.key) ∧ w'.cell? ⟨bx, ox + m * 4 + 1, none⟩ = some (.int .i64 l2.ver) ∧ w'.cell? ⟨bx, ox + m * 4 + 2, none⟩ = some (.string l2.val) ∧ w'.cell? ⟨bx, ox + m * 4 + 3, none⟩ = some (.bool l2.gone)) ∧ (w'.cell? ⟨bx, ox + k * 4, none⟩ = some (.string l.key) ∧ w'.cell? ⟨bx, ox + k * 4 + 1, none⟩ = some (.int .i64 l.ver) ∧ w'.cell? ⟨bx, ox + k * 4 + 2, none⟩ = some (.string l.val) ∧ w'.cell? ⟨bx, ox + k * 4 + 3, none⟩ = some (.bool l.gone))) ((refine rowKeep2 ?_ r2 r1; repeat (first | exact Below.refl _ _ | assumption | refine Below.drew ?_ | refine balloc ?_ _ | refine bstep ?_ (by assumption)))) (first | (go_at_call 119; refine (l5Ahead_any l2 l _).mono ?_; rintro e w' ⟨rfl, hb1⟩; rw [hah]))
            rename_i hH
            have hB2 := bstep hB hH.1
            clear hH
            go_wp2
          · go_ret
            have hC := HC2.out (by rw [HT2.out]; simp)
            rw [HT2.out] at hC
            refine ⟨?_, hB2⟩
            rw [hC]
            rfl
          · refine ⟨⟨k + 1, by omega, by go_num, fun j hj => ?_, hB2⟩, by simp [intOf]; omega⟩
            by_cases hj2 : j < k
            · exact HP.out j hj2
            · have : j = k := by omega
              subst this
              rw [HT2.out]
              simp
      · have hf' : ((rowFault l : Int) == 0) = false := by rw [beq_eq_false_iff_ne]; exact hf
        have hK := HK.out
        rw [if_pos hf] at hK
        have hC := HC2.out (by rw [hK]; exact hf)
        have HE : Hid (tabF xs = rowFault l) := hC.trans hK
        clear hK hC
        go_wp2
        go_ret
        refine ⟨?_, hB⟩
        rw [HE.out]
        rfl
    · have hkn : k = n := by omega
      subst hkn
      have HE : Hid (tabF xs = 0) := HZ.out HP.out
      go_wp2
      go_ret
      refine ⟨?_, hbl⟩
      rw [HE.out]
      rfl
end Go.Proofs.Yteebglgbeijolaa

/-
  The program's TableFault. (src.py writes the template.)
-/
namespace Go.Proofs.Yteebglgbeijolaa
open Go.RowKit
set_option linter.unusedSectionVars false
variable [DecidableEq Rw] [Inhabited Rw]
set_option linter.unusedVariables false
attribute [local go_sem ↓] Go.wp_at_zero Go.wp_at_succ

theorem run_store_func (P : Program) (w : World) (a : Addr) (m : Mode) (f : Fn) (r b : Array Value) : (store a (.func f r b) m).run P w = stored P w a (.func f r b) m := run_store P w a _ m rfl
attribute [local go_sem] run_store_func

def cmpF : Value := .func (.func 77) #[] #[]
set_option maxHeartbeats 400000 in
theorem tableOf_any (a : Option Addr) (n c : Nat) (w : World) :
    Calls Try.prog 74 #[.slice a n c] w fun e w' => e = .returned (.agg #[.slice a n c, cmpF]) ∧ Below w.heap.size w w' := by
  go_enter Try.func74, Try.ntmps74
  go_wp2
  exact bodyPost_ret (v := .agg #[.slice a n c, cmpF]) (by simp [results, Try.results74, go_sem, cmpF]) rfl ⟨rfl, balloc (Below.refl _ _) _⟩
set_option maxHeartbeats 1000000 in
theorem ends_nil (a : Option Addr) (c : Nat) (y : Rw) (w : World) :
    Calls Try.prog 81 #[.agg #[.slice a 0 c, cmpF], rowV y] w fun e w' => e = .returned (.bool true) ∧ Below w.heap.size w w' := by
  unfold rowV cmpF
  go_enter Try.func81, Try.ntmps81
  go_wp2
  go_quiet (fail)
  go_wp2
  go_ret
  exact ⟨rfl, bdrN (balloc (balloc (Below.refl _ _) _) _) _⟩
theorem endsKeep {w w' : World} {b o b' o' : Nat} {x y : Rw} {a1 a2 : Addr} {u1 u2 : Value} (hb : Below w.heap.size w w') (h : rowCells w b o x) (h' : rowCells w b' o' y) (g1 : w.cell? a1 = some u1) (g2 : w.cell? a2 = some u2) :
    Below w.heap.size w w' ∧ (w'.cell? ⟨b, o, none⟩ = some (.string x.key) ∧ w'.cell? ⟨b, o + 1, none⟩ = some (.int .i64 x.ver) ∧ w'.cell? ⟨b, o + 2, none⟩ = some (.string x.val) ∧ w'.cell? ⟨b, o + 3, none⟩ = some (.bool x.gone)) ∧ (w'.cell? ⟨b', o', none⟩ = some (.string y.key) ∧ w'.cell? ⟨b', o' + 1, none⟩ = some (.int .i64 y.ver) ∧ w'.cell? ⟨b', o' + 2, none⟩ = some (.string y.val) ∧ w'.cell? ⟨b', o' + 3, none⟩ = some (.bool y.gone)) ∧ w'.cell? a1 = some u1 ∧ w'.cell? a2 = some u2 :=
  ⟨hb, rowCells_below hb h, rowCells_below hb h', cell_keep hb g1, cell_keep hb g2⟩
set_option maxHeartbeats 1000000 in
theorem ends_any (b o n m c : Nat) (x y : Rw) (w : World) (hn : n = m + 1) (hc : n ≤ c) (hm : n ≤ 200) (hx : rowCells w b (o + m * 4) x) :
    Calls Try.prog 81 #[.agg #[.slice (some ⟨b, o, none⟩) n c, cmpF], rowV y] w fun e w' => e = .returned (.bool (ahead x y)) ∧ Below w.heap.size w w' := by
  unfold rowV cmpF
  have hlt : b < w.heap.size := World.block_lt_of_cell? _ _ hx.1
  have hi1 : IntKind.i64.wrap ((n : Int) - 1) = (m : Int) := by rw [IntKind.wrap_i64]; omega
  have hi3 : decide ((m : Int) < 0) = false := decide_eq_false (by omega)
  have hi4 : (0 : Int) ≤ m := by omega
  have hi5 : (m : Int) < n := by omega
  have eg := enters_of Try.func77 (by kernel_rfl) rfl
  clear hn
  go_enter Try.func81, Try.ntmps81
  go_wp2
  obtain ⟨W0, hW0⟩ : ∃ W0, (w.alloc (.cells #[.slice (some ⟨b, o, none⟩) n c, .func (.func 77) #[] #[]] 122)).alloc (.cells #[.string y.key, .int .i64 y.ver, .string y.val, .bool y.gone] 61) = W0 := ⟨_, rfl⟩
  have hB0 : Below w.heap.size w W0 := by rw [← hW0]; exact balloc (balloc (Below.refl _ _) _) _
  have r1 : rowCells W0 b (o + m * 4) x := rowCells_below hB0 hx
  have r2 : rowCells W0 (w.heap.size + 1) 0 y := by rw [← hW0]; unfold rowCells; simp [go_sem]
  have q0 : W0.cell? ⟨w.heap.size, 0, none⟩ = some (.slice (some ⟨b, o, none⟩) n c) := by rw [← hW0]; simp [go_sem]
  have q1 : W0.cell? ⟨w.heap.size, 1, none⟩ = some (.func (.func 77) #[] #[]) := by rw [← hW0]; simp [go_sem]
  rw [hW0]
  clear hW0 hx
  go_region_held3 (fun w' => Below W0.heap.size W0 w' ∧ (w'.cell? ⟨b, o + m * 4, none⟩ = some (.string x.key) ∧ w'.cell? ⟨b, o + m * 4 + 1, none⟩ = some (.int .i64 x.ver) ∧ w'.cell? ⟨b, o + m * 4 + 2, none⟩ = some (.string x.val) ∧ w'.cell? ⟨b, o + m * 4 + 3, none⟩ = some (.bool x.gone)) ∧ (w'.cell? ⟨w.heap.size + 1, 0, none⟩ = some (.string y.key) ∧ w'.cell? ⟨w.heap.size + 1, 0 + 1, none⟩ = some (.int .i64 y.ver) ∧ w'.cell? ⟨w.heap.size + 1, 0 + 2, none⟩ = some (.string y.val) ∧ w'.cell? ⟨w.heap.size + 1, 0 + 3, none⟩ = some (.bool y.gone)) ∧ w'.cell? ⟨w.heap.size, 0, none⟩ = some (.slice (some ⟨b, o, none⟩) n c) ∧ w'.cell? ⟨w.heap.size, 1, none⟩ = some (.func (.func 77) #[] #[]))
    ((refine endsKeep ?_ r1 r2 q0 q1; repeat (first | exact Below.refl _ _ | assumption | refine Below.drew ?_ | refine balloc ?_ _ | refine bstep ?_ (by assumption))))
    (first | (go_at_call 77; refine (compareRows_any x y _).mono ?_; rintro e w' ⟨rfl, hb1⟩))
  rename_i hH
  have hB := bstep hB0 hH.1
  clear hH
  go_wp2
  go_ret
  exact ⟨rfl, hB⟩
theorem tableField (a : Option Addr) (n c : Nat) (w : World) : (Instr.field 124 (.agg #[.slice a n c, .func (.func 77) #[] #[]]) 0).run Try.prog w = .ok (.agg #[.slice a n c, .func (.func 77) #[] #[]]) w := by kernel_rfl
theorem tabKeep {w w' : World} {b o : Nat} {y : Rw} (hb : Below w.heap.size w w') (h' : rowCells w b o y) :
    Below w.heap.size w w' ∧ w'.cell? ⟨b, o, none⟩ = some (.string y.key) ∧ w'.cell? ⟨b, o + 1, none⟩ = some (.int .i64 y.ver) ∧ w'.cell? ⟨b, o + 2, none⟩ = some (.string y.val) ∧ w'.cell? ⟨b, o + 3, none⟩ = some (.bool y.gone) :=
  ⟨hb, rowCells_below hb h'⟩
set_option maxHeartbeats 2000000 in
theorem implTableFault_any (x : Value) (xs : List Rw) (w : World) (hx : RowsV w x xs) :
    Calls Try.prog 29 #[x] w fun e w' => e = .returned (.int .i64 (tabF xs)) ∧ Below w.heap.size w w' := by
  obtain ⟨ax, cx, rfl, hcx, hmx, hx⟩ := hx
  unfold maxLen at hmx
  by_cases hn : 200 < xs.length
  · have e : tabF xs = 2 := by unfold tabF; rw [if_pos hn]
    rw [e]
    clear e hx
    generalize xs.length = n at *
    have h1 : (200 : Int) < n := by omega
    go_enter Try.func29, Try.ntmps29
    go_wp2
    go_ret
    exact ⟨rfl, Below.refl _ _⟩
  have HZ : Hid ((∀ j, j < xs.length → tabAt xs j = 0) → tabF xs = 0) := tabF_zero (by omega)
  have HC : Hid (∀ k, k < xs.length → (∀ j, j < k → tabAt xs j = 0) → tabAt xs k ≠ 0 → tabF xs = tabAt xs k) := fun k hk h hc => tabF_at (by omega) hk h hc
  generalize xs.length = n at *
  have h1 : ¬ (200 : Int) < n := by omega
  go_enter Try.func29, Try.ntmps29
  go_wp2
  go_loopw [11] (fun i w' => ∃ k : Nat, k ≤ n ∧ i = .int .i64 k ∧ Hid (∀ j, j < k → tabAt xs j = 0) ∧ Below w.heap.size w w') (fun i _ => n - (intOf i).toNat)
  case atStart => exact ⟨0, Nat.zero_le _, rfl, fun j h => absurd h (Nat.not_lt_zero _), Below.refl _ _⟩
  case round =>
    obtain ⟨k, hk, rfl, HP, hbl⟩ := hrel
    by_cases hlt : k < n
    · obtain ⟨bx, ox, rfl, h2⟩ := hx k hlt
      have HC2 : Hid (tabAt xs k ≠ 0 → tabF xs = tabAt xs k) := fun hc => HC.out k hlt HP.out hc
      have HK : Hid (tabAt xs k = if rowFault (xs.getD k default) ≠ 0 then rowFault (xs.getD k default) else if 0 < k ∧ ahead (xs.getD (k - 1) default) (xs.getD k default) = false then 1 else 0) := rfl
      have HX : Hid (∀ i, i < n → ∃ b o, some (⟨bx, ox, none⟩ : Addr) = some ⟨b, o, none⟩ ∧ rowCells w b (o + i * 4) (xs.getD i default)) := hx
      obtain ⟨l, hl⟩ : ∃ l, l = xs.getD k default := ⟨_, rfl⟩
      rw [← hl] at h2 HK
      clear hl hx HC HZ
      obtain ⟨a0, a1, a2, a3⟩ := rowCells_below hbl h2
      go_wp2_with fail
      refine (implRowFault_any l _).mono ?_
      rintro e wa ⟨rfl, hba⟩
      have r0 : rowCells wa wr.heap.size 0 l := rowCells_below hba (by unfold rowCells; simp [go_sem])
      have hB : Below w.heap.size w wa := by (repeat (first | exact Below.refl _ _ | assumption | refine Below.drew ?_ | refine balloc ?_ _ | refine bset ?_ (by simp; omega) _ | refine bset ?_ (by simp) _ | refine bstep ?_ (by assumption)))
      clear hba
      by_cases hf : rowFault l = 0
      · rw [hf]
        have HK2 : Hid (tabAt xs k = if 0 < k ∧ ahead (xs.getD (k - 1) default) l = false then 1 else 0) := by
          rw [Hid, HK.out, if_neg (by simp [hf])]
        clear hf HK a0 a1 a2 a3
        have hi5 : (0 : Int) ≤ k := by omega
        have hi6 : (k : Int) ≤ cx := by omega
        have hfd := tableField
        by_cases hk0 : k = 0
        · subst hk0
          go_wp2
          go_region_held3 (fun w' => Below wa.heap.size wa w' ∧ w'.cell? ⟨wr.heap.size, 0, none⟩ = some (.string l.key) ∧ w'.cell? ⟨wr.heap.size, 0 + 1, none⟩ = some (.int .i64 l.ver) ∧ w'.cell? ⟨wr.heap.size, 0 + 2, none⟩ = some (.string l.val) ∧ w'.cell? ⟨wr.heap.size, 0 + 3, none⟩ = some (.bool l.gone)) ((refine tabKeep ?_ r0; repeat (first | exact Below.refl _ _ | assumption | refine Below.drew ?_ | refine balloc ?_ _ | refine bstep ?_ (by assumption))))
            (first | (go_at_call 74; refine (tableOf_any _ _ _ _).mono ?_; rintro e wt ⟨rfl, hbt⟩; unfold cmpF) | (go_at_call 81; refine (ends_nil _ _ l _).mono ?_; rintro e w' ⟨rfl, hb1⟩))
          rename_i hH
          have hB2 := bstep hB hH.1
          clear hH
          go_wp2
          refine ⟨⟨1, by omega, by go_num, fun j hj => ?_, hB2⟩, by simp [intOf]; omega⟩
          have : j = 0 := by omega
          subst this
          rw [HK2.out]
          simp
        · obtain ⟨m, hm⟩ : ∃ m, k - 1 = m := ⟨_, rfl⟩
          obtain ⟨bp, op, ep, h3⟩ := HX.out m (by omega)
          simp only [Option.some.injEq, Addr.mk.injEq, and_true] at ep
          obtain ⟨rfl, rfl⟩ := ep
          rw [hm] at HK2
          obtain ⟨l2, hl2⟩ : ∃ l, l = xs.getD m default := ⟨_, rfl⟩
          rw [← hl2] at h3 HK2
          have HM : Hid (0 < k) := by rw [Hid]; omega
          have hkm : k = m + 1 := by omega
          have HKM : Hid (k = m + 1) := hkm
          have hk200 : k ≤ 200 := by omega
          have hkcx : k ≤ cx := by omega
          clear hl2 HX hm hk0 hkm
          have r2 := rowCells_below hB h3
          have HT : Hid (∀ b, ahead l2 l = b → tabAt xs k = if b = false then 1 else 0) := fun b hb => by
            rw [HK2.out, hb]
            have := HM.out
            simp [this]
          clear HK2 h2 h3
          cases hah : ahead l2 l
          all_goals
            have HT2 : Hid _ := HT.out _ hah
            go_wp2
            go_region_held3 (fun w' => Below wa.heap.size wa w' ∧ w'.cell? ⟨wr.heap.size, 0, none⟩ = some (.string l.key) ∧ w'.cell? ⟨wr.heap.size, 0 + 1, none⟩ = some (.int .i64 l.ver) ∧ w'.cell? ⟨wr.heap.size, 0 + 2, none⟩ = some (.string l.val) ∧ w'.cell? ⟨wr.heap.size, 0 + 3, none⟩ = some (.bool l.gone)) ((refine tabKeep ?_ r0; repeat (first | exact Below.refl _ _ | assumption | refine Below.drew ?_ | refine balloc ?_ _ | refine bstep ?_ (by assumption))))
              (first | (go_at_call 74; refine (tableOf_any _ _ _ _).mono ?_; rintro e wt ⟨rfl, hbt⟩; unfold cmpF) | (go_at_call 81; refine (ends_any _ _ k m _ l2 l _ HKM.out hkcx hk200 (rowCells_below (by repeat (first | exact Below.refl _ _ | assumption | refine Below.drew ?_ | refine balloc ?_ _ | refine bstep ?_ (by assumption))) r2)).mono ?_; rintro e w' ⟨rfl, hb1⟩; rw [hah]))
            rename_i hH
            have hB2 := bstep hB hH.1
            clear hH
            go_wp2
          · go_ret
            have hC := HC2.out (by rw [HT2.out]; simp)
            rw [HT2.out] at hC
            refine ⟨?_, hB2⟩
            rw [hC]
            rfl
          · refine ⟨⟨k + 1, by omega, by go_num, fun j hj => ?_, hB2⟩, by simp [intOf]; omega⟩
            by_cases hj2 : j < k
            · exact HP.out j hj2
            · have : j = k := by omega
              subst this
              rw [HT2.out]
              simp
      · have hf' : ((rowFault l : Int) == 0) = false := by rw [beq_eq_false_iff_ne]; exact hf
        have hK := HK.out
        rw [if_pos hf] at hK
        have hC := HC2.out (by rw [hK]; exact hf)
        have HE : Hid (tabF xs = rowFault l) := hC.trans hK
        clear hK hC
        go_wp2
        go_ret
        refine ⟨?_, hB⟩
        rw [HE.out]
        rfl
    · have hkn : k = n := by omega
      subst hkn
      have HE : Hid (tabF xs = 0) := HZ.out HP.out
      go_wp2
      go_ret
      refine ⟨?_, hbl⟩
      rw [HE.out]
      rfl
end Go.Proofs.Yteebglgbeijolaa

/-
  slices.Values over the rows of a table.
-/
namespace Go.Proofs.Yteebglgbeijolaa
open Go.RowKit Go.Shelf
set_option linter.unusedSectionVars false
variable [DecidableEq Rw] [Inhabited Rw]
set_option linter.unusedVariables false
attribute [local go_sem] Oper.semAt_some

def TabAt (R : Nat → Prop) (W : World) (v : Value) (xs : List Rw) : Prop :=
  ∃ a cap, v = .slice a xs.length cap ∧ xs.length ≤ cap ∧ cap ≤ maxLen ∧ ∀ i, i < xs.length → ∃ b o, a = some ⟨b, o, none⟩ ∧ R b ∧ rowCells W b (o + i * 4) (xs.getD i default)
theorem rowCells_mod {F : Nat → Prop} {w w' : World} {b o : Nat} {x : Rw} (hm : Mod F w w') (hb : ¬ F b) (h : rowCells w b o x) : rowCells w' b o x :=
  ⟨hm.cell h.1 hb, hm.cell h.2.1 hb, hm.cell h.2.2.1 hb, hm.cell h.2.2.2 hb⟩
theorem TabAt.mod {R F : Nat → Prop} {w w' : World} {v : Value} {xs : List Rw} (h : TabAt R w v xs) (hm : Mod F w w') (hF : ∀ b, R b → ¬ F b) : TabAt R w' v xs := by
  obtain ⟨a, cap, e, h1, h2, h3⟩ := h
  refine ⟨a, cap, e, h1, h2, fun i hi => ?_⟩
  obtain ⟨b, o, ha, hb, hc⟩ := h3 i hi
  exact ⟨b, o, ha, hb, rowCells_mod hm (hF b hb) hc⟩
theorem TabAt.of {R : Nat → Prop} {w : World} {v : Value} {xs : List Rw} (h : RowsV w v xs) (hR : ∀ b, b < w.heap.size → R b) : TabAt R w v xs := by
  obtain ⟨a, cap, e, h1, h2, h3⟩ := h
  refine ⟨a, cap, e, h1, h2, fun i hi => ?_⟩
  obtain ⟨b, o, ha, hc⟩ := h3 i hi
  exact ⟨b, o, ha, hR b (World.block_lt_of_cell? _ _ hc.1), hc⟩
theorem TabAt.wide {R R' : Nat → Prop} {w : World} {v : Value} {xs : List Rw} (h : TabAt R w v xs) (hR : ∀ b, R b → R' b) : TabAt R' w v xs := by
  obtain ⟨a, cap, e, h1, h2, h3⟩ := h
  refine ⟨a, cap, e, h1, h2, fun i hi => ?_⟩
  obtain ⟨b, o, ha, hb, hc⟩ := h3 i hi
  exact ⟨b, o, ha, hR b hb, hc⟩
theorem take_snoc {α : Type} [Inhabited α] (xs : List α) {k : Nat} (hk : k < xs.length) : xs.take k ++ [xs.getD k default] = xs.take (k + 1) := by
  rw [List.take_add_one, List.getElem?_eq_getElem hk]
  simp [List.getD, hk]
set_option maxRecDepth 100000 in
set_option maxHeartbeats 2000000 in
theorem values_seq (Bs : Nat) (v : Value) (xs : List Rw) (R : Nat → Prop) (w : World) (hB : w.cell? ⟨Bs, 0, none⟩ = some v) (hRB : R Bs) (hT : TabAt R w v xs) (hn : xs.length ≤ 200) :
    Seqx Try.prog 144 #[.pointer (some ⟨Bs, 0, none⟩)] rowV xs R w := by
  intro l J Jx W X hm hXa hJ hJx hY h0
  have hBW := hm.cell hB (fun h => h hRB)
  have hTW := hT.mod hm (fun b hb h => h hb)
  clear hB hT
  obtain ⟨a, cap, rfl, hc1, hc2, hrow⟩ := hTW
  unfold maxLen at hc2
  have HP : Hid (∀ k, k < xs.length → xs.take k ++ [xs.getD k default] = xs.take (k + 1)) := fun k hk => take_snoc xs hk
  have HA : Hid (∀ k, xs.take k <+: xs) := fun k => List.take_prefix _ _
  have HE : Hid (xs.take xs.length = xs) := List.take_length
  generalize hN : xs.length = n at *
  have HN : Hid (xs.length = n) := hN
  clear hN
  refine callsIn_of_wp Try.func144 rfl trivial ?_ rfl
  simp only [Try.ntmps144, List.size_toArray, List.length_cons, List.length_nil, Nat.reduceAdd, Nat.reduceSub, Array.replicate_succ, Array.replicate_zero, List.push_toArray, List.append_toArray, List.nil_append, List.cons_append]
  gi_wp2
  gi_loopw [7] (fun i wr => ∃ k : Nat, k ≤ n ∧ i = .int .i64 k ∧ Hid (J (xs.take k) wr X) ∧ Hid (∀ b, X b → b < wr.heap.size) ∧ Mod (fun b => ¬ R b) W wr) (fun i _ => n - (intOf i).toNat)
  case atStart => exact ⟨0, Nat.zero_le _, rfl, (show J [] W X from h0), hXa, Mod.refl _ _⟩
  case round =>
    obtain ⟨k, hk, rfl, HJ, HXa, hmr⟩ := hrel
    by_cases hlt : k < n
    · obtain ⟨b, o, rfl, hRb, hc⟩ := hrow k hlt
      obtain ⟨q, hq⟩ : ∃ q, q = xs.getD k default := ⟨_, rfl⟩
      have hP := HP.out k hlt
      rw [← hq] at hc hP
      have HPk : Hid (xs.take k ++ [q] = xs.take (k + 1)) := hP
      obtain ⟨c0, c1, c2, c3⟩ := rowCells_mod hmr (fun h => h hRb) hc
      have hJ2 : J (xs.take k) (wr.alloc (.cells #[.string q.key, .int .i64 q.ver, .string q.val, .bool q.gone] 61)) X :=
        hJ _ _ _ _ _ HJ.out (mod_alloc _ _ _) (fun _ h => h) (fun b h => ⟨.inl h, by have := HXa.out b h; simp; omega⟩)
      obtain ⟨fn, tmps, assign, body, hy, hR2⟩ := hY _ q _ X hJ2 (fun _ h => h) (fun b h => by have := HXa.out b h; simp; omega) (by rw [hP]; exact HA.out _)
      unfold rowV at hy
      clear hP hq hrow hc
      gi_wp2
      refine ⟨rfl, hR2.mono ?_⟩
      rintro e W3 (⟨rfl, hJ3, hk3⟩ | ⟨rfl, hJx3, hk3⟩)
      · gi_wp2
        go_roundw
        case rel =>
          have hs := hk3.size
          simp only [World.size_alloc] at hs
          refine ⟨k + 1, by omega, by simp, ?_, fun b h => ?_, (hmr.alloc _).trans (hk3.mono (fun b h hr => h (.inl hr)))⟩
          · rw [Hid, ← HPk.out]
            exact hJ3
          · have := HXa.out b h
            omega
        case measure => simp [intOf]; omega
      · gi_wp2
        refine bodyPost_ret (results_none rfl _ _ _) rfl ?_
        exact ⟨⟨_, rfl⟩, X, fun _ h => h, .inr ⟨_, by rw [HPk.out]; exact HA.out _, hJx3⟩⟩
    · obtain rfl : k = n := by omega
      gi_wp2
      go_end0
      refine ⟨⟨_, rfl⟩, X, fun _ h => h, .inl ?_⟩
      have hj := HJ.out
      rw [HE.out] at hj
      exact hj
end Go.Proofs.Yteebglgbeijolaa

