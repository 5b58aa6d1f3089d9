import Derived.Test.YtdfapehonegeeaaGreatPrnFlushEngineLaw4
import Derived.Test.YtdfapehonegeeaaGreatPrnFlushEngineLaw1
import Derived.Deep.RegionHeld3
import Derived.Deep.DrawnRows
import Derived.BigQuiet
import Derived.Test.YtdfapehonegeeaaGreatPrnFlushEngineLaw2

/-
  PackText on both sides.
-/
namespace Go.Proofs.YtdfapehonegeeaaGreat
open Go.RowKit
set_option linter.unusedSectionVars false
variable [DecidableEq BytesR] [Inhabited BytesR]
attribute [local go_sem ↓] Go.wp_at_zero Go.wp_at_succ

theorem frozen_grown {w w' : World} {row : Option Nat} {a : Addr} (hg : w.grownBy w' row) (h : w.frozen? a = false) (hlt : a.block < w.heap.size) (hne : some a.block ≠ row) : w'.frozen? a = false := by
  have e := hg.block a.block hlt hne
  unfold World.frozen? at h ⊢
  rw [e]
  exact h
def textD (s : ByteArray) : BytesR := if s.size ≤ 200 then ⟨0, [toB s.size] ++ strB s⟩ else ⟨2, []⟩
set_option maxHeartbeats 1000000 in
theorem specText_u (s : ByteArray) (hs : s.size ≤ maxLen) (w : World) :
    Calls Tryz.prog 118 #[.string s] w fun e w' => ∃ v F, e = .returned v ∧ bytesRR.O w' w.heap.size F v (textD s) ∧ Below w.heap.size w w' := by
  have hs' := hs
  unfold maxLen at hs'
  by_cases h : s.size ≤ 200
  · have HD : Hid (textD s = ⟨0, [toB s.size] ++ strB s⟩) := if_pos h
    have hc := fun w => Lib.run_convert_string_bytes (P := Tryz.prog) w 9 22 5 s Tryz.underlying9 Tryz.underlying22 Tryz.underlying5
    obtain ⟨q, hq⟩ : ∃ q, IntKind.u8.wrap (s.size : Int) = q := ⟨_, rfl⟩
    have HQ : Hid (q = ((toB s.size).val : Int)) := by rw [← hq]; exact wrapB _
    have HL : Hid ((strB s).length = s.size) := length_strB s
    go_enter Tryz.func118, Tryz.ntmps118
    have r0 := World.ownsRow_lit (base := w.heap.size + 1) (e := 5) (size := 1) (w.alloc (.cells #[.int .i64 0, .slice none 0 0] 146)) #[.int .u8 q] 1 (by simp) (by unfold maxLen; omega) rfl
    have r1 := owns_below r0 (below_bytesWorld _ 5 s)
    have t1 := appAny_bytes (bytesV_str ((w.alloc (.cells #[.int .i64 0, .slice none 0 0] 146)).alloc (.cells #[.int .u8 q] 5)) 5 s hs)
    have hbw := below_bytesWorld ((w.alloc (.cells #[.int .i64 0, .slice none 0 0] 146)).alloc (.cells #[.int .u8 q] 5)) 5 s
    have hB0 : Below w.heap.size w (Lib.bytesWorld ((w.alloc (.cells #[.int .i64 0, .slice none 0 0] 146)).alloc (.cells #[.int .u8 q] 5)) 5 s) := by (repeat (first | exact Below.refl _ _ | assumption | refine Below.drew ?_ | refine balloc ?_ _ | refine bset ?_ (by simp; omega) _ | refine bset ?_ (by simp) _ | refine bstep ?_ (by assumption)))
    have hr0 := cell_keep (a := ⟨w.heap.size, 0, none⟩) (v := .int .i64 0) hbw (by simp [go_sem])
    have hr1 := cell_keep (a := ⟨w.heap.size, 1, none⟩) (v := .slice none 0 0) hbw (by simp [go_sem])
    have hrf : ∀ o, (Lib.bytesWorld ((w.alloc (.cells #[.int .i64 0, .slice none 0 0] 146)).alloc (.cells #[.int .u8 q] 5)) 5 s).frozen? ⟨w.heap.size, o, none⟩ = false := fun o => by rw [(bcell hbw).2 _ _ (by simp; omega)]; simp [go_sem]
    have hz : w.heap.size + 1 ≤ (Lib.bytesWorld ((w.alloc (.cells #[.int .i64 0, .slice none 0 0] 146)).alloc (.cells #[.int .u8 q] 5)) 5 s).heap.size := by have := hbw.size; simp at this; omega
    simp only [World.size_alloc] at r1 t1
    have e1 : bytesC [toB s.size] = [.int .u8 q] := by rw [HQ.out]; rfl
    have l2 : [toB (s.size : Int)].length + (strB s).length ≤ 1073741824 := by rw [HL.out]; simp; omega
    generalize hY : Lib.bytesWorld ((w.alloc (.cells #[.int .i64 0, .slice none 0 0] 146)).alloc (.cells #[.int .u8 q] 5)) 5 s = Y at *
    clear hbw r0
    rw [← e1] at r1
    clear e1
    go_wp2_with (at_builtin; refine wpList_appB _ rfl _ _ rfl (w.heap.size + 1) _ [toB (s.size : Int)] rfl _ (strB s) rfl r1 t1 l2 hz ?_)
    intro v' w1 ho' hg hB
    have hB1 : Below w.heap.size w w1 := hB0.grown hg hB0.size (fun k hk => by have := r1.lt k hk; omega)
    have n0 : some w.heap.size ≠ (Value.slice (some ⟨w.heap.size + 1, 0, none⟩) 1 1).ownBlock := by simp [Value.ownBlock]
    replace hr0 := hg.cell hr0 n0
    replace hr1 := hg.cell hr1 n0
    have hrf1 : ∀ o, w1.frozen? ⟨w.heap.size, o, none⟩ = false := fun o => frozen_grown hg (hrf o) (by dsimp only; omega) n0
    have o1 : bytesR.O w1 (w.heap.size + 1) (fun b => v'.ownBlock = some b) v' ([toB (s.size : Int)] ++ strB s) := ⟨by simpa using ho', rfl⟩
    clear hg hB ho' hrf hB0 r1 t1 l2 hz hY hc hq
    rw [← HL.out] at h
    obtain ⟨a1, n1, rfl⟩ := bytes_form (bytesR.ofO o1)
    generalize [toB (s.size : Int)] ++ strB s = D at *
    go_wp2
    refine bodyPost_ret (v := .agg #[.int .i64 0, .slice a1 D.length n1]) ?_ rfl ⟨_, (fun b => (Value.slice a1 D.length n1).ownBlock = some b), rfl, ?_, by (repeat (first | exact Below.refl _ _ | assumption | refine Below.drew ?_ | refine balloc ?_ _ | refine bset ?_ (by simp; omega) _ | refine bset ?_ (by simp) _ | refine bstep ?_ (by assumption)))⟩
    · simp [results, Tryz.results118, go_sem, hr0, hr1]
    · rw [HD.out]
      exact ⟨_, _, rfl, bytesR.base (base := w.heap.size + 1) (bytesR.set (bytesR.set o1 _ (by simp)) _ (by simp)) (by omega), fun b => Iff.rfl⟩
  · have HD : Hid (textD s = ⟨2, []⟩) := if_neg h
    go_enter Tryz.func118, Tryz.ntmps118
    go_wp2
    refine bodyPost_ret (v := .agg #[.int .i64 2, .slice none 0 0]) ?_ rfl ?_
    · simp [results, Tryz.results118, go_sem]
    · rw [HD.out]
      first | exact ⟨_, none_, rfl, bytesR_nil _ _ _, by (repeat (first | exact Below.refl _ _ | assumption | refine Below.drew ?_ | refine balloc ?_ _ | refine bset ?_ (by simp; omega) _ | refine bset ?_ (by simp) _ | refine bstep ?_ (by assumption)))⟩ | exact ⟨_, rfl, ⟨none_, bytesR_nil _ _ _⟩, by (repeat (first | exact Below.refl _ _ | assumption | refine Below.drew ?_ | refine balloc ?_ _ | refine bset ?_ (by simp; omega) _ | refine bset ?_ (by simp) _ | refine bstep ?_ (by assumption)))⟩
set_option maxHeartbeats 1000000 in
theorem implText_u (s : ByteArray) (hs : s.size ≤ maxLen) (w : World) :
    Calls Tryz.prog 124 #[.string s] w fun e w' => ∃ v F, e = .returned v ∧ bytesRR.O w' w.heap.size F v (textD s) ∧ Below w.heap.size w w' := by
  have hs' := hs
  unfold maxLen at hs'
  by_cases h : s.size ≤ 200
  · have HD : Hid (textD s = ⟨0, [toB s.size] ++ strB s⟩) := if_pos h
    have HF : Hid ([[toB s.size], strB s].flatten = [toB s.size] ++ strB s) := by simp [Hid]
    have HL : Hid ([[toB s.size], strB s].flatten.length ≤ 1073741824) := by
      simp only [Hid, List.flatten_cons, List.flatten_nil, List.length_append, length_strB, List.length_nil, List.length_cons]; omega
    have hc := fun w => Lib.run_convert_string_bytes (P := Tryz.prog) w 9 22 5 s Tryz.underlying9 Tryz.underlying22 Tryz.underlying5
    go_enter Tryz.func124, Tryz.ntmps124
    go_wp2_with fail
    refine (singles_any _ [(s.size : Int)] _ (nums1 (g := w.heap.size + 1) (by simp [go_sem])) (by simp)).mono ?_
    rintro e w1 ⟨v1, F1, rfl, o1, hb1⟩
    have hr0 : w1.cell? ⟨w.heap.size, 0, none⟩ = some (.int .i64 0) := cell_keep hb1 (by simp [go_sem])
    have hr1 : w1.cell? ⟨w.heap.size, 1, none⟩ = some (.slice none 0 0) := cell_keep hb1 (by simp [go_sem])
    have hrf : ∀ o, w1.frozen? ⟨w.heap.size, o, none⟩ = false := fun o => by rw [(bcell hb1).2 _ _ (by simp; omega)]; simp [go_sem]
    have hz : w.heap.size < w1.heap.size := World.block_lt_of_cell? _ _ hr0
    have V1 := bytesR.ofO o1
    rw [show [(s.size : Int)].map toB = [toB s.size] from rfl] at V1
    have hB1 : Below w.heap.size w w1 := by (repeat (first | exact Below.refl _ _ | assumption | refine Below.drew ?_ | refine balloc ?_ _ | refine bset ?_ (by simp; omega) _ | refine bset ?_ (by simp) _ | refine bstep ?_ (by assumption)))
    clear o1 hb1
    obtain ⟨a1, n1, rfl⟩ := bytes_form V1
    have hbw := below_bytesWorld w1 5 s
    have V2 : bytesR.V _ _ (strB s) := bytesV_str w1 5 s hs
    replace V1 := bytesR.below V1 hbw
    replace hr0 := cell_keep hbw hr0
    replace hr1 := cell_keep hbw hr1
    have hrg := boxKeep ⟨hrf, hz⟩ hbw
    have hB2 : Below w.heap.size w (Lib.bytesWorld w1 5 s) := bstep hB1 hbw
    have hzz := hbw.size
    clear hbw hrf hB1
    go_wp2_with fail
    refine (joined_any _ [[toB s.size], strB s] _ (bytess2 (g := (Lib.bytesWorld w1 5 s).heap.size) (by simp [go_sem]) (by simp [go_sem]) (bytesR.below V1 (by (repeat (first | exact Below.refl _ _ | assumption | refine Below.drew ?_ | refine balloc ?_ _ | refine bset ?_ (by simp; omega) _ | refine bset ?_ (by simp) _ | refine bstep ?_ (by assumption))))) (bytesR.below V2 (by (repeat (first | exact Below.refl _ _ | assumption | refine Below.drew ?_ | refine balloc ?_ _ | refine bset ?_ (by simp; omega) _ | refine bset ?_ (by simp) _ | refine bstep ?_ (by assumption)))))) HL.out).mono ?_
    rintro e w4 ⟨v3, F3, rfl, o3, hb4⟩
    replace hr0 := cell_keep hb4 (cell_keep (by (repeat (first | exact Below.refl _ _ | assumption | refine Below.drew ?_ | refine balloc ?_ _ | refine bset ?_ (by simp; omega) _ | refine bset ?_ (by simp) _ | refine bstep ?_ (by assumption)))) hr0)
    replace hr1 := cell_keep hb4 (cell_keep (by (repeat (first | exact Below.refl _ _ | assumption | refine Below.drew ?_ | refine balloc ?_ _ | refine bset ?_ (by simp; omega) _ | refine bset ?_ (by simp) _ | refine bstep ?_ (by assumption)))) hr1)
    replace hrg := boxKeep (boxKeep hrg (by (repeat (first | exact Below.refl _ _ | assumption | refine Below.drew ?_ | refine balloc ?_ _ | refine bset ?_ (by simp; omega) _ | refine bset ?_ (by simp) _ | refine bstep ?_ (by assumption))))) hb4
    obtain ⟨hrf, hlt⟩ := hrg
    have hB4 : Below w.heap.size w w4 := by (repeat (first | exact Below.refl _ _ | assumption | refine Below.drew ?_ | refine balloc ?_ _ | refine bset ?_ (by simp; omega) _ | refine bset ?_ (by simp) _ | refine bstep ?_ (by assumption)))
    have o3' := bytesR.base (base' := w.heap.size + 1) o3 (by simp; omega)
    rw [HF.out] at o3'
    obtain ⟨a3, n3, rfl⟩ := bytes_form (bytesR.ofO o3')
    clear o3 V1 V2 hb4 hB2 hzz hc
    generalize [toB (s.size : Int)] ++ strB s = D at *
    go_wp2
    refine bodyPost_ret (v := .agg #[.int .i64 0, .slice a3 D.length n3]) ?_ rfl ⟨_, F3, rfl, ?_, by (repeat (first | exact Below.refl _ _ | assumption | refine Below.drew ?_ | refine balloc ?_ _ | refine bset ?_ (by simp; omega) _ | refine bset ?_ (by simp) _ | refine bstep ?_ (by assumption)))⟩
    · simp [results, Tryz.results124, go_sem, hr0, hr1]
    · rw [HD.out]
      exact ⟨_, F3, rfl, bytesR.base (base := w.heap.size + 1) (bytesR.set (bytesR.set o3' _ (by simp)) _ (by simp)) (by omega), fun b => Iff.rfl⟩
  · have HD : Hid (textD s = ⟨2, []⟩) := if_neg h
    go_enter Tryz.func124, Tryz.ntmps124
    go_wp2
    refine bodyPost_ret (v := .agg #[.int .i64 2, .slice none 0 0]) ?_ rfl ?_
    · simp [results, Tryz.results124, go_sem]
    · rw [HD.out]
      first | exact ⟨_, none_, rfl, bytesR_nil _ _ _, by (repeat (first | exact Below.refl _ _ | assumption | refine Below.drew ?_ | refine balloc ?_ _ | refine bset ?_ (by simp; omega) _ | refine bset ?_ (by simp) _ | refine bstep ?_ (by assumption)))⟩ | exact ⟨_, rfl, ⟨none_, bytesR_nil _ _ _⟩, by (repeat (first | exact Below.refl _ _ | assumption | refine Below.drew ?_ | refine balloc ?_ _ | refine bset ?_ (by simp; omega) _ | refine bset ?_ (by simp) _ | refine bstep ?_ (by assumption)))⟩
theorem textD_le (s : ByteArray) : (textD s).bytes.length ≤ 201 := by
  unfold textD
  split
  · simp only [List.length_append, length_strB, List.length_cons, List.length_nil]; omega
  · simp
end Go.Proofs.YtdfapehonegeeaaGreat

/-
  A row of a table: the law's own copy, comparison, count; RowFault on both sides.
-/
namespace Go.Proofs.YtdfapehonegeeaaGreat
open Go.RowKit
set_option linter.unusedSectionVars false
attribute [local go_sem ↓] Go.wp_at_zero Go.wp_at_succ
set_option linter.unusedSimpArgs false

structure Rw where
  key : ByteArray
  ver : Int
  val : ByteArray
  gone : Bool
variable [DecidableEq Rw] [Inhabited Rw]

def rowV (x : Rw) : Value := .agg #[.string x.key, .int .i64 x.ver, .string x.val, .bool x.gone]
set_option maxHeartbeats 400000 in
theorem toRow_any (x : Rw) (w : World) :
    Calls Tryz.prog 106 #[rowV x] w fun e w' => e = .returned (rowV x) ∧ Below w.heap.size w w' := by
  obtain ⟨a, b, c, d⟩ := x
  unfold rowV
  go_enter Tryz.func106, Tryz.ntmps106
  go_wp2
  exact bodyPost_ret (v := .agg #[.string a, .int .i64 b, .string c, .bool d]) (by simp [results, Tryz.results106, go_sem]) rfl ⟨rfl, balloc (balloc (balloc (Below.refl _ _) _) _) _⟩
set_option maxHeartbeats 400000 in
theorem eqRow_any (x y : Rw) (w : World) :
    Calls Tryz.prog 114 #[rowV x, rowV y] w fun e w' => e = .returned (.bool (decide (x = y))) ∧ Below w.heap.size w w' := by
  obtain ⟨a, b, c, d⟩ := x
  obtain ⟨a', b', c', d'⟩ := y
  unfold rowV
  go_enter Tryz.func114, Tryz.ntmps114
  go_wp2
  all_goals
    go_ret
    exact ⟨by simp_all [tl_inj], balloc (balloc (Below.refl _ _) _) _⟩
def inR (a lo hi : Int) : Bool := decide (lo ≤ a ∧ a ≤ hi)
theorem l1InR_any (a lo hi : Int) (w : World) :
    Calls Tryz.prog 44 #[.int .i64 a, .int .i64 lo, .int .i64 hi] w fun e w' => e = .returned (.bool (inR a lo hi)) ∧ w' = w := by
  go_enter Tryz.func44, Tryz.ntmps44
  go_wp2
  all_goals
    go_ret
    exact ⟨by unfold inR; simp_all <;> omega, rfl⟩
theorem withinR_any (a lo hi : Int) (w : World) :
    Calls Tryz.prog 109 #[.int .i64 a, .int .i64 lo, .int .i64 hi] w fun e w' => e = .returned (.bool (inR a lo hi)) ∧ w' = w := by
  go_enter Tryz.func109, Tryz.ntmps109
  go_wp2
  all_goals
    go_ret
    exact ⟨by unfold inR; simp_all <;> omega, rfl⟩
def rowFault (x : Rw) : Int :=
  if x.key.size < 1 ∨ 20 < x.key.size ∨ (x.gone = true ∧ 0 < x.val.size) then 1 else if 100 < x.val.size then 2 else if inR x.ver 1 1000000 then 0 else 3
set_option maxHeartbeats 400000 in
theorem specRowFault_any (x : Rw) (w : World) :
    Calls Tryz.prog 101 #[rowV x] w fun e w' => e = .returned (.int .i64 (rowFault x)) ∧ Below w.heap.size w w' := by
  obtain ⟨a, b, c, d⟩ := x
  unfold rowV
  cases d <;> cases hin : inR b 1 1000000
  all_goals
    go_enter Tryz.func101, Tryz.ntmps101
    go_wp2_with (go_at_call 44; refine (l1InR_any _ _ _ _).mono ?_; rintro e w' ⟨rfl, rfl⟩; rw [hin])
    all_goals
      go_ret
      refine ⟨?_, balloc (Below.refl _ _) _⟩
      refine congrArg (fun z => Ending.returned (Value.int .i64 z)) ?_
      try simp only [tl_nil, tl_empty, Bool.not_eq_true', Bool.not_eq_false', decide_eq_true_eq, decide_eq_false_iff_not] at *
      unfold rowFault
      simp only [hin, true_and, false_and, or_false, Bool.false_eq_true, if_true, if_false]
      repeat (first | rfl | (exfalso; omega) | rw [if_pos (by omega)] | rw [if_neg (by omega)])
set_option maxHeartbeats 400000 in
theorem implRowFault_any (x : Rw) (w : World) :
    Calls Tryz.prog 148 #[rowV x] w fun e w' => e = .returned (.int .i64 (rowFault x)) ∧ Below w.heap.size w w' := by
  obtain ⟨a, b, c, d⟩ := x
  unfold rowV
  cases d <;> cases hin : inR b 1 1000000
  all_goals
    go_enter Tryz.func148, Tryz.ntmps148
    go_wp2_with (go_at_call 109; refine (withinR_any _ _ _ _).mono ?_; rintro e w' ⟨rfl, rfl⟩; rw [hin])
    all_goals
      go_ret
      refine ⟨?_, balloc (Below.refl _ _) _⟩
      refine congrArg (fun z => Ending.returned (Value.int .i64 z)) ?_
      try simp only [tl_nil, tl_empty, Bool.not_eq_true', Bool.not_eq_false', decide_eq_true_eq, decide_eq_false_iff_not] at *
      unfold rowFault
      simp only [hin, true_and, false_and, or_false, Bool.false_eq_true, if_true, if_false]
      repeat (first | rfl | (exfalso; omega) | rw [if_pos (by omega)] | rw [if_neg (by omega)])
def wtRw (x : Rw) : Nat := x.key.size + x.val.size
set_option maxHeartbeats 400000 in
theorem szRow_any (x : Rw) (left : Int) (w : World) (hk : x.key.size ≤ maxLen) (hv : x.val.size ≤ maxLen) (h0 : 0 ≤ left) (h1 : left ≤ 1048576) :
    Calls Tryz.prog 100 #[rowV x, .int .i64 left] w fun e w' => e = .returned (.int .i64 (szLen left (wtRw x : Nat))) ∧ Below w.heap.size w w' := by
  obtain ⟨a, b, c, d⟩ := x
  unfold rowV
  unfold maxLen at hk hv
  dsimp only [wtRw] at *
  have e1 : wrap64 (left - a.size) = left - a.size := by unfold wrap64; omega
  by_cases h : left - (a.size : Int) < 0
  · go_enter Tryz.func100, Tryz.ntmps100
    go_wp2
    go_ret
    exact ⟨by rw [szLen, if_pos (by omega)]; rfl, balloc (Below.refl _ _) _⟩
  · have e2 : wrap64 (left - a.size - c.size) = left - a.size - c.size := by unfold wrap64; omega
    by_cases h2 : left - (a.size : Int) - (c.size : Int) < 0
    · go_enter Tryz.func100, Tryz.ntmps100
      go_wp2
      go_ret
      exact ⟨by rw [szLen, if_pos (by omega)]; rfl, balloc (Below.refl _ _) _⟩
    · go_enter Tryz.func100, Tryz.ntmps100
      go_wp2
      go_ret
      refine ⟨?_, balloc (Below.refl _ _) _⟩
      rw [szLen, if_neg (by omega)]
      refine congrArg (fun z => Ending.returned (Value.int .i64 z)) ?_
      omega
end Go.Proofs.YtdfapehonegeeaaGreat

/-
  Writes: their rows, their bytes, their faults.
-/
namespace Go.Proofs.YtdfapehonegeeaaGreat
open Go.RowKit
set_option linter.unusedSectionVars false
variable [DecidableEq Wri] [Inhabited Wri] [DecidableEq BytesR] [Inhabited BytesR] [DecidableEq Rw] [Inhabited Rw]
set_option linter.unusedVariables false
set_option linter.unusedSimpArgs false

def wrRow (v : Int) (x : Wri) : Rw := ⟨x.key, v, x.val, x.gone⟩
def wrP (x : Wri) : List (List Byte) := if x.gone = true then [[toB 1], (textD x.key).bytes] else [[toB 0], (textD x.key).bytes, (textD x.val).bytes]
def packP (v : Int) (ws : List Wri) : List (List Byte) := [hiB v 8] ++ ws.flatMap wrP
def packB (v : Int) (ws : List Wri) : List Byte := (packP v ws).flatten
theorem wrP_len (x : Wri) : (wrP x).length ≤ 3 := by
  unfold wrP
  split <;> simp
theorem wrP_flat (x : Wri) : (wrP x).flatten.length ≤ 403 := by
  have h1 := textD_le x.key
  have h2 := textD_le x.val
  unfold wrP
  split <;> simp only [List.flatten_cons, List.flatten_nil, List.length_append, List.length_cons, List.length_nil] <;> omega
theorem wri_take_eq (ws : List Wri) (k : Nat) (h : k < ws.length) : ws.take (k + 1) = ws.take k ++ [ws.getD k default] := by
  rw [List.take_add_one]
  congr 1
  simp [List.getD, h]
theorem packP_take (v : Int) (ws : List Wri) (k : Nat) (h : k < ws.length) : packP v (ws.take (k + 1)) = packP v (ws.take k) ++ wrP (ws.getD k default) := by
  rw [wri_take_eq ws k h]
  simp only [packP, List.flatMap_append, List.flatMap_cons, List.flatMap_nil, List.append_assoc, List.append_nil]
theorem packB_take (v : Int) (ws : List Wri) (k : Nat) (h : k < ws.length) : packB v (ws.take (k + 1)) = packB v (ws.take k) ++ (wrP (ws.getD k default)).flatten := by
  unfold packB
  rw [packP_take v ws k h, List.flatten_append]
theorem packP_len (v : Int) (ws : List Wri) : (packP v ws).length ≤ 1 + ws.length * 3 := by
  have h : (ws.flatMap wrP).length ≤ ws.length * 3 := by
    induction ws with
    | nil => simp
    | cons x r ih =>
      have := wrP_len x
      rw [List.flatMap_cons, List.length_append, List.length_cons]
      omega
  unfold packP
  rw [List.length_append, List.length_cons, List.length_nil]
  omega
theorem packB_len (v : Int) (ws : List Wri) : (packB v ws).length ≤ 8 + ws.length * 403 := by
  have h : (ws.flatMap wrP).flatten.length ≤ ws.length * 403 := by
    induction ws with
    | nil => simp
    | cons x r ih =>
      have := wrP_flat x
      rw [List.flatMap_cons, List.flatten_append, List.length_append, List.length_cons]
      omega
  unfold packB packP
  rw [List.flatten_append, List.length_append]
  simp only [List.flatten_cons, List.flatten_nil, List.append_nil, length_hiB]
  omega
def hasK (ws : List Wri) (k : Nat) (s : ByteArray) : Bool := (List.range k).any fun j => decide ((ws.getD j default).key = s)
theorem hasK_of {ws : List Wri} {k j : Nat} {s : ByteArray} (hj : j < k) (h : (ws.getD j default).key = s) : hasK ws k s = true :=
  List.any_eq_true.2 ⟨j, List.mem_range.2 hj, decide_eq_true h⟩
theorem hasK_none {ws : List Wri} {k : Nat} {s : ByteArray} (h : ∀ j, j < k → (ws.getD j default).key ≠ s) : hasK ws k s = false := by
  rw [← Bool.not_eq_true]
  intro c
  obtain ⟨j, hj, e⟩ := List.any_eq_true.1 c
  exact h j (List.mem_range.1 hj) (of_decide_eq_true e)
def firstZ (f : Nat → Int) : Nat → Int
  | 0 => 0
  | n + 1 => if firstZ f n = 0 then f n else firstZ f n
theorem firstZ_zero {f : Nat → Int} : ∀ {n : Nat}, (∀ j, j < n → f j = 0) → firstZ f n = 0
  | 0, _ => rfl
  | n + 1, h => by
    unfold firstZ
    rw [firstZ_zero (fun j hj => h j (by omega)), if_pos rfl]
    exact h n (by omega)
theorem firstZ_at {f : Nat → Int} : ∀ {n k : Nat}, k < n → (∀ j, j < k → f j = 0) → f k ≠ 0 → firstZ f n = f k
  | 0, k, hk, _, _ => absurd hk (Nat.not_lt_zero _)
  | n + 1, k, hk, h, hc => by
    unfold firstZ
    by_cases e : k = n
    · subst e
      rw [firstZ_zero h, if_pos rfl]
    · rw [firstZ_at (by omega : k < n) h hc, if_neg hc]
theorem firstZ_inv {f : Nat → Int} : ∀ {n : Nat}, firstZ f n = 0 → ∀ j, j < n → f j = 0
  | 0, _, j, hj => absurd hj (Nat.not_lt_zero _)
  | n + 1, h, j, hj => by
    unfold firstZ at h
    by_cases e : firstZ f n = 0
    · rw [if_pos e] at h
      by_cases e2 : j = n
      · subst e2; exact h
      · exact firstZ_inv e j (by omega)
    · rw [if_neg e] at h; exact absurd h e
def wrAt (ws : List Wri) (k : Nat) : Int :=
  if rowFault (wrRow 1 (ws.getD k default)) ≠ 0 then rowFault (wrRow 1 (ws.getD k default)) else if hasK ws k (ws.getD k default).key = true then 7 else 0
def wrF (ws : List Wri) : Int :=
  if ws.length < 1 ∨ 8 < ws.length then 2 else if firstZ (wrAt ws) ws.length ≠ 0 then firstZ (wrAt ws) ws.length else if 500 < (packB 1 ws).length then 2 else 0
theorem wrF_many {ws : List Wri} (h : ws.length < 1 ∨ 8 < ws.length) : wrF ws = 2 := if_pos h
theorem wrF_at {ws : List Wri} {k : Nat} (h : ¬ (ws.length < 1 ∨ 8 < ws.length)) (hk : k < ws.length) (hz : ∀ j, j < k → wrAt ws j = 0) (hc : wrAt ws k ≠ 0) : wrF ws = wrAt ws k := by
  unfold wrF
  rw [if_neg h, firstZ_at hk hz hc, if_pos hc]
theorem wrF_end {ws : List Wri} (h : ¬ (ws.length < 1 ∨ 8 < ws.length)) (hz : ∀ j, j < ws.length → wrAt ws j = 0) : wrF ws = if 500 < (packB 1 ws).length then 2 else 0 := by
  unfold wrF
  rw [if_neg h, firstZ_zero hz, if_neg (by simp)]
theorem wrF_inv {ws : List Wri} (h : wrF ws = 0) : 1 ≤ ws.length ∧ ws.length ≤ 8 ∧ (∀ j, j < ws.length → wrAt ws j = 0) ∧ (packB 1 ws).length ≤ 500 := by
  unfold wrF at h
  split at h
  · omega
  · rename_i h1
    split at h
    · rename_i h2; exact absurd h h2
    · rename_i h2
      split at h
      · omega
      · exact ⟨by omega, by omega, firstZ_inv (by simpa using h2), by omega⟩
end Go.Proofs.YtdfapehonegeeaaGreat

/-
  Rows of a table, in a slice: read, owned, copied, compared, counted. (Written by program: tab_gen.py.)
-/
namespace Go.Proofs.YtdfapehonegeeaaGreat
open Go.RowKit
set_option linter.unusedSectionVars false
variable [DecidableEq Rw] [Inhabited Rw]
attribute [local go_sem ↓] Go.wp_at_zero Go.wp_at_succ

def rowCells (w : World) (b o : Nat) (x : Rw) : Prop := w.cell? ⟨b, o, none⟩ = some (.string x.key) ∧ w.cell? ⟨b, o + 1, none⟩ = some (.int .i64 x.ver) ∧ w.cell? ⟨b, o + 2, none⟩ = some (.string x.val) ∧ w.cell? ⟨b, o + 3, none⟩ = some (.bool x.gone)
def Fit (xs : List Rw) : Prop := ∀ i, i < xs.length → (xs.getD i default).key.size ≤ maxLen ∧ (xs.getD i default).val.size ≤ maxLen
def RowsV (w : World) (v : Value) (xs : List Rw) : Prop :=
  ∃ a cap, v = .slice a xs.length cap ∧ xs.length ≤ cap ∧ cap ≤ maxLen ∧ ∀ i, i < xs.length → ∃ b o, a = some ⟨b, o, none⟩ ∧ rowCells w b (o + i * 4) (xs.getD i default)
theorem rowCells_below {w w' : World} {b o : Nat} {x : Rw} (hb : Below w.heap.size w w') (h : rowCells w b o x) : rowCells w' b o x := by
  obtain ⟨h0, h1, h2, h3⟩ := h
  exact ⟨cell_keep hb h0, cell_keep hb h1, cell_keep hb h2, cell_keep hb h3⟩
theorem RowsV_below {w w' : World} {v : Value} {xs : List Rw} (h : RowsV w v xs) (hb : Below w.heap.size w w') : RowsV w' v xs := by
  obtain ⟨a, cap, rfl, h1, h2, h3⟩ := h
  exact ⟨a, cap, rfl, h1, h2, fun i hi => by
    obtain ⟨b, o, ha, hc⟩ := h3 i hi
    exact ⟨b, o, ha, rowCells_below hb hc⟩⟩
theorem rowKeep2 {w w' : World} {b o b' o' : Nat} {x y : Rw} (hb : Below w.heap.size w w') (h : rowCells w b o x) (h' : rowCells w b' o' y) :
    Below w.heap.size w w' ∧ (w'.cell? ⟨b, o, none⟩ = some (.string x.key) ∧ w'.cell? ⟨b, o + 1, none⟩ = some (.int .i64 x.ver) ∧ w'.cell? ⟨b, o + 2, none⟩ = some (.string x.val) ∧ w'.cell? ⟨b, o + 3, none⟩ = some (.bool x.gone)) ∧ (w'.cell? ⟨b', o', none⟩ = some (.string y.key) ∧ w'.cell? ⟨b', o' + 1, none⟩ = some (.int .i64 y.ver) ∧ w'.cell? ⟨b', o' + 2, none⟩ = some (.string y.val) ∧ w'.cell? ⟨b', o' + 3, none⟩ = some (.bool y.gone)) :=
  ⟨hb, rowCells_below hb h, rowCells_below hb h'⟩
theorem rws_eq_of {xs ys : List Rw} (hl : ys.length = xs.length) (h : ∀ j, j < xs.length → xs.getD j default = ys.getD j default) : xs = ys := by
  apply List.ext_getElem (by omega)
  intro i h1 h2
  have := h i h1
  simpa [List.getD, h1, h2] using this
set_option maxHeartbeats 1000000 in
theorem eqRowS_any (x y : Value) (xs ys : List Rw) (w : World) (hx : RowsV w x xs) (hy : RowsV w y ys) :
    Calls Tryz.prog 59 #[x, y] w fun e w' => e = .returned (.bool (decide (xs = ys))) ∧ Below w.heap.size w w' := by
  obtain ⟨ax, cx, rfl, hcx, hmx, hx⟩ := hx
  obtain ⟨ay, cy, rfl, hcy, hmy, hy⟩ := hy
  unfold maxLen at hmx hmy
  by_cases hl : ys.length = xs.length
  · rw [hl] at hcy hy ⊢
    have HL : Hid (ys.length = xs.length) := hl
    clear hl
    generalize hn : xs.length = n at *
    have HN : Hid (xs.length = n) := hn
    clear hn
    go_enter Tryz.func59, Tryz.ntmps59
    go_wp2
    go_loopw [5] (fun i w' => ∃ k : Nat, k ≤ n ∧ i = .int .i64 k ∧ (∀ j, j < k → xs.getD j default = ys.getD j default) ∧ Below w.heap.size w w') (fun i _ => n - (intOf i).toNat)
    case atStart => exact ⟨0, Nat.zero_le _, rfl, fun j h => absurd h (Nat.not_lt_zero _), Below.refl _ _⟩
    case round =>
      obtain ⟨k, hk, rfl, hpre, hbl⟩ := hrel
      have HP : Hid (∀ j, j < k → xs.getD j default = ys.getD j default) := hpre
      clear hpre
      by_cases hlt : k < n
      · obtain ⟨bx, ox, rfl, h1⟩ := hx k hlt
        obtain ⟨b2, oy, rfl, h2⟩ := hy k hlt
        obtain ⟨l1, hl1⟩ : ∃ l, l = xs.getD k default := ⟨_, rfl⟩
        obtain ⟨l2, hl2⟩ : ∃ l, l = ys.getD k default := ⟨_, rfl⟩
        rw [← hl1] at h1
        rw [← hl2] at h2
        have H1 : Hid (l1 = xs.getD k default) := hl1
        have H2 : Hid (l2 = ys.getD k default) := hl2
        clear hl1 hl2 hx hy
        go_wp2
        go_region_held3 (fun w' => Below w.heap.size w w' ∧ (w'.cell? ⟨bx, ox + k * 4, none⟩ = some (.string l1.key) ∧ w'.cell? ⟨bx, ox + k * 4 + 1, none⟩ = some (.int .i64 l1.ver) ∧ w'.cell? ⟨bx, ox + k * 4 + 2, none⟩ = some (.string l1.val) ∧ w'.cell? ⟨bx, ox + k * 4 + 3, none⟩ = some (.bool l1.gone)) ∧ (w'.cell? ⟨b2, oy + k * 4, none⟩ = some (.string l2.key) ∧ w'.cell? ⟨b2, oy + k * 4 + 1, none⟩ = some (.int .i64 l2.ver) ∧ w'.cell? ⟨b2, oy + k * 4 + 2, none⟩ = some (.string l2.val) ∧ w'.cell? ⟨b2, oy + k * 4 + 3, none⟩ = some (.bool l2.gone))) ((refine rowKeep2 ?_ h1 h2; repeat (first | exact Below.refl _ _ | assumption | refine Below.drew ?_ | refine balloc ?_ _ | refine bstep ?_ (by assumption)))) (first | (go_at_call 114; refine (eqRow_any l1 l2 _).mono ?_; rintro e w' ⟨rfl, hb1⟩))
        rename_i hH
        have hB := hH.1
        clear hH
        go_wp2
        · rename_i hle
          go_ret
          refine ⟨?_, hB⟩
          have : ¬ xs = ys := fun h => by
            have : l1 = l2 := by rw [H1.out, H2.out, h]
            simp [this] at hle
          simp [this]
        · rename_i hle
          refine ⟨⟨k + 1, by omega, by go_num, fun j hj => ?_, hB⟩, by simp [intOf]; omega⟩
          by_cases hjk : j < k
          · exact HP.out j hjk
          · have : j = k := by omega
            subst this
            rw [← H1.out, ← H2.out]
            simpa using hle
      · go_wp2
        go_ret
        have : k = n := by omega
        subst this
        refine ⟨?_, hbl⟩
        have : xs = ys := rws_eq_of (by rw [HL.out, HN.out]) (by rw [HN.out]; exact HP.out)
        simp [this]
  · go_enter Tryz.func59, Tryz.ntmps59
    have hl' : ((xs.length : Int) == (ys.length : Int)) = false := by simp; omega
    go_wp2
    go_ret
    have : ¬ xs = ys := fun h => hl (by rw [h])
    exact ⟨by simp [this], Below.refl _ _⟩
def rowC (x : Rw) : List Value := [.string x.key, .int .i64 x.ver, .string x.val, .bool x.gone]
def rwsC (xs : List Rw) : List Value := xs.flatMap rowC
theorem infoRw : (Tryz.prog.info? 76).map (fun i => (i.zero, i.size, i.bytes)) = some (some (.agg #[.string ⟨#[]⟩, .int .i64 0, .string ⟨#[]⟩, .bool false]), 4, 48) := by kernel_rfl
theorem length_rwsC (xs : List Rw) : (rwsC xs).length = xs.length * 4 := by
  induction xs with
  | nil => rfl
  | cons x r ih =>
    have e : rwsC (x :: r) = rowC x ++ rwsC r := by simp [rwsC]
    have l4 : (rowC x).length = 4 := rfl
    rw [e, List.length_append, l4, ih, List.length_cons]
    omega
theorem get_rwsC (xs : List Rw) : ∀ i, i < xs.length → (rwsC xs)[i * 4]? = some (.string (xs.getD i default).key) ∧ (rwsC xs)[i * 4 + 1]? = some (.int .i64 (xs.getD i default).ver) ∧ (rwsC xs)[i * 4 + 2]? = some (.string (xs.getD i default).val) ∧ (rwsC xs)[i * 4 + 3]? = some (.bool (xs.getD i default).gone) := by
  induction xs with
  | nil => intro i h; simp at h
  | cons x r ih =>
    intro i h
    cases i with
    | zero => simp [rwsC, rowC]
    | succ i =>
      have := ih i (by simpa using h)
      have e : rwsC (x :: r) = rowC x ++ rwsC r := by simp [rwsC]
      have l4 : (rowC x).length = 4 := rfl
      rw [e]
      refine ⟨?_, ?_, ?_, ?_⟩
      all_goals rw [List.getElem?_append_right (by omega), l4]
      · rw [show (i + 1) * 4 - 4 = i * 4 by omega]; simpa using this.1
      · rw [show (i + 1) * 4 + 1 - 4 = i * 4 + 1 by omega]; simpa using this.2.1
      · rw [show (i + 1) * 4 + 2 - 4 = i * 4 + 2 by omega]; simpa using this.2.2.1
      · rw [show (i + 1) * 4 + 3 - 4 = i * 4 + 3 by omega]; simpa using this.2.2.2
theorem RowsV_of_owns {w : World} {base e : Nat} {v : Value} {xs : List Rw} (h : w.ownsRow base e 4 v xs.length (rwsC xs)) : RowsV w v xs := by
  rcases h.2 with ⟨rfl, hn⟩ | ⟨g, cap, cur, rfl, hb, hg, hnc, hcm, hcs, htake⟩
  · exact ⟨none, 0, by rw [hn], by omega, by unfold maxLen; omega, fun i hi => by omega⟩
  · refine ⟨some ⟨g, 0, none⟩, cap, rfl, hnc, hcm, fun i hi => ⟨g, 0, rfl, ?_⟩⟩
    obtain ⟨h0, h1, h2, h3⟩ := get_rwsC xs i hi
    simp only [Nat.zero_add, rowCells]
    exact ⟨(h.cellAt _ (by omega)).trans h0, (h.cellAt _ (by omega)).trans h1, (h.cellAt _ (by omega)).trans h2, (h.cellAt _ (by omega)).trans h3⟩
def rwsUpto (k : Nat) (cs : List Value) (xs : List Rw) : Prop := ∀ j, j < k * 4 → cs[j]? = (rwsC xs)[j]?
theorem rwsUpto_full {n : Nat} {cs : List Value} {xs : List Rw} (h : rwsUpto n cs xs) (hl : cs.length = n * 4) (hn : xs.length = n) : cs = rwsC xs := by
  apply List.ext_getElem?
  intro j
  by_cases hj : j < n * 4
  · exact h j hj
  · rw [List.getElem?_eq_none (by omega), List.getElem?_eq_none (by rw [length_rwsC]; omega)]
theorem rwsUpto_set {k : Nat} {cs : List Value} {xs : List Rw} {x : Rw} (h : rwsUpto k cs xs) (hk : k < xs.length) (hl : cs.length = xs.length * 4) (he : x = xs.getD k default) :
    rwsUpto (k + 1) ((((cs.set (k * 4) (.string x.key)).set (k * 4 + 1) (.int .i64 x.ver)).set (k * 4 + 2) (.string x.val)).set (k * 4 + 3) (.bool x.gone)) xs := by
  intro j hj
  obtain ⟨h0, h1, h2, h3⟩ := get_rwsC xs k hk
  subst he
  simp only [List.getElem?_set, List.length_set]
  by_cases e3 : k * 4 + 3 = j
  · subst e3; simp [h3]; omega
  by_cases e2 : k * 4 + 2 = j
  · subst e2; simp [h2]; omega
  by_cases e1 : k * 4 + 1 = j
  · subst e1; simp [h1]; omega
  by_cases e0 : k * 4 = j
  · subst e0; simp [h0]; omega
  simp [e0, e1, e2, e3]
  exact h j (by omega)
set_option maxHeartbeats 1000000 in
theorem toRowS_any (x : Value) (xs : List Rw) (w : World) (hx : RowsV w x xs) (hn : xs.length ≤ 1048576) :
    Calls Tryz.prog 49 #[x] w fun e w' => ∃ v, e = .returned v ∧ w'.ownsRow w.heap.size 76 4 v xs.length (rwsC xs) ∧ Below w.heap.size w w' := by
  obtain ⟨ax, cx, rfl, hcx, hmx, hx⟩ := hx
  unfold maxLen at hmx
  obtain ⟨i0, hi, hz0, hz1, hz2⟩ := info_parts infoRw
  obtain ⟨w1, hmk, hown, hgr⟩ := run_make_full (P := Tryz.prog) w w.heap.size 32 76 i0 _ 4 Tryz.underlying32 hi hz0 hz1 .i64 .i64 xs.length (by rw [hz2]; omega) (by unfold maxLen; omega) (Nat.le_refl _)
  have hbl0 : Below w.heap.size w w1 := (Below.refl _ _).grown hgr (Nat.le_refl _) (fun k h => by cases h)
  generalize hn' : xs.length = n at *
  have HN : Hid (xs.length = n) := hn'
  clear hn'
  go_enter Tryz.func49, Tryz.ntmps49
  go_wp2
  go_loopw [4] (fun i w' => ∃ (k : Nat) (cs : List Value), k ≤ n ∧ i = .int .i64 k ∧ w'.ownsRow w.heap.size 76 4 (.slice (some ⟨w.heap.size, 0, none⟩) n n) n cs ∧ rwsUpto k cs xs ∧ Below w.heap.size w w') (fun i _ => n - (intOf i).toNat)
  case atStart => exact ⟨0, _, Nat.zero_le _, rfl, hown, fun j h => by omega, hbl0⟩
  case round =>
    obtain ⟨k, cs, hk, rfl, ho, hup, hbl⟩ := hrel
    have HU : Hid (rwsUpto k cs xs) := hup
    clear hup hown hmk hgr hbl0
    by_cases hlt : k < n
    · obtain ⟨bx, ox, rfl, h1⟩ := hx k hlt
      obtain ⟨l, hl⟩ : ∃ l, l = xs.getD k default := ⟨_, rfl⟩
      rw [← hl] at h1
      have H1 : Hid (l = xs.getD k default) := hl
      clear hl hx
      obtain ⟨a0, a1, a2, a3⟩ := rowCells_below hbl h1
      go_wp2_with fail
      refine (toRow_any l _).mono ?_
      rintro e wa ⟨rfl, hba⟩
      have ho1 := owns_below ho hba
      obtain ⟨u0, g0⟩ := owns_some ho1 (k * 4) (by omega)
      obtain ⟨u1, g1⟩ := owns_some ho1 (k * 4 + 1) (by omega)
      obtain ⟨u2, g2⟩ := owns_some ho1 (k * 4 + 2) (by omega)
      obtain ⟨u3, g3⟩ := owns_some ho1 (k * 4 + 3) (by omega)
      have hf := fun j => ho1.frozenAt j
      simp only [rowV]
      go_wp2
      have s0 := ho1.stored (k * 4) (.string l.key)
      have s1 := s0.1.stored (k * 4 + 1) (.int .i64 l.ver)
      have s2 := s1.1.stored (k * 4 + 2) (.string l.val)
      have s3 := s2.1.stored (k * 4 + 3) (.bool l.gone)
      refine ⟨⟨k + 1, _, by omega, by go_num, s3.1, rwsUpto_set HU.out (by have := HN.out; omega) (by have := HN.out; have := ho.1; omega) H1.out, ?_⟩, by simp [intOf]; omega⟩
      exact ((((bstep hbl hba).setCell (Nat.le_refl _) _).setCell (Nat.le_refl _) _).setCell (Nat.le_refl _) _).setCell (Nat.le_refl _) _
    · go_wp2
      go_ret
      have hkn : k = n := by omega
      subst hkn
      have e := rwsUpto_full HU.out ho.1 HN.out
      subst e
      exact ⟨_, rfl, ho, hbl⟩
def wtRows (xs : List Rw) : Nat := xs.length + (xs.map wtRw).sum
theorem wt_take (xs : List Rw) (k : Nat) (h : k < xs.length) : ((xs.take (k + 1)).map wtRw).sum = ((xs.take k).map wtRw).sum + wtRw (xs.getD k default) := by
  rw [List.take_add_one, List.map_append, List.sum_append, List.getElem?_eq_getElem h]
  simp [List.getD, h]
theorem wt_part (xs : List Rw) (k : Nat) : ((xs.take k).map wtRw).sum ≤ (xs.map wtRw).sum := by
  conv => rhs; rw [← List.take_append_drop k xs]
  rw [List.map_append, List.sum_append]
  omega
set_option maxHeartbeats 1000000 in
theorem szRowS_any (x : Value) (xs : List Rw) (left : Int) (w : World) (hx : RowsV w x xs) (hfit : Fit xs) (h0 : 0 ≤ left) (h1 : left ≤ 1048576) :
    Calls Tryz.prog 40 #[x, .int .i64 left] w fun e w' => e = .returned (.int .i64 (szLen left (wtRows xs))) ∧ Below w.heap.size w w' := by
  obtain ⟨ax, cx, rfl, hcx, hmx, hx⟩ := hx
  unfold maxLen at hmx
  by_cases h : left < xs.length
  · have h' : left - (xs.length : Int) < 0 := by omega
    have e : szLen left (wtRows xs) = -1 := by unfold szLen wtRows; rw [if_pos (by omega)]
    rw [e]
    clear e hfit
    generalize xs.length = n at *
    go_enter Tryz.func40, Tryz.ntmps40
    go_wp2
    go_ret
    exact ⟨rfl, Below.refl _ _⟩
  · have h' : ¬ left - (xs.length : Int) < 0 := by omega
    have HT : Hid (∀ k, k < xs.length → ((xs.take (k + 1)).map wtRw).sum = ((xs.take k).map wtRw).sum + wtRw (xs.getD k default)) := fun k hk => wt_take xs k hk
    have HP : Hid (∀ k, ((xs.take k).map wtRw).sum ≤ (xs.map wtRw).sum) := wt_part xs
    have HF : Hid (Fit xs) := hfit
    have HW : Hid (wtRows xs = xs.length + (xs.map wtRw).sum) := rfl
    have HA : Hid (((xs.take xs.length).map wtRw).sum = (xs.map wtRw).sum) := by rw [Hid, List.take_length]
    clear hfit
    generalize hn : xs.length = n at *
    have HN : Hid (xs.length = n) := hn
    clear hn
    go_enter Tryz.func40, Tryz.ntmps40
    go_wp2
    go_loopw [1, 5] (fun q i w' => ∃ (k : Nat) (r : Nat), k ≤ n ∧ i = .int .i64 k ∧ q = .int .i64 r ∧ (r : Int) = left - n - ((xs.take k).map wtRw).sum ∧ Below w.heap.size w w') (fun _ i _ => n - (intOf i).toNat)
    case atStart => exact ⟨0, (left - n).toNat, Nat.zero_le _, rfl, by congr 1; omega, by simp; omega, Below.refl _ _⟩
    case round =>
      obtain ⟨k, r, hk, rfl, rfl, hr, hbl⟩ := hrel
      by_cases hlt : k < n
      · obtain ⟨bx, ox, rfl, h2⟩ := hx k hlt
        have hf := HF.out k (by rw [HN.out]; exact hlt)
        have ht := HT.out k hlt
        have hp := HP.out (k + 1)
        have hW := HW.out
        obtain ⟨l, hl⟩ : ∃ l, l = xs.getD k default := ⟨_, rfl⟩
        rw [← hl] at h2 hf ht
        obtain ⟨a0, a1, a2, a3⟩ := rowCells_below hbl h2
        generalize ((xs.take k).map wtRw).sum = S0 at *
        generalize hS1 : ((xs.take (k + 1)).map wtRw).sum = S1 at *
        have HS1 : Hid (((xs.take (k + 1)).map wtRw).sum = S1) := hS1
        clear hS1
        generalize (xs.map wtRw).sum = S at *
        have HR : Hid ((r : Int) = left - n - S0 ∧ S1 = S0 + wtRw l ∧ wtRows xs = n + S) := ⟨hr, ht, hW⟩
        have hr0 : (r : Int) ≤ 1048576 := by omega
        clear hl hx hr ht hW
        go_wp2_with fail
        refine (szRow_any l r _ hf.1 hf.2 (by omega) hr0).mono ?_
        rintro e wa ⟨rfl, hba⟩
        have hB := bstep hbl hba
        by_cases hs : (r : Int) < (wtRw l : Nat)
        · have es : szLen r (wtRw l : Nat) = -1 := by unfold szLen; rw [if_pos hs]
          rw [es]
          go_wp2
          go_ret
          have hR := HR.out
          exact ⟨by unfold szLen; rw [if_pos (by omega)]; rfl, hB⟩
        · have es : szLen r (wtRw l : Nat) = ((r - wtRw l : Nat) : Int) := by unfold szLen; rw [if_neg hs]; omega
          rw [es]
          clear es
          go_wp2
          have hR := HR.out
          exact ⟨⟨k + 1, r - wtRw l, by omega, by go_num, rfl, by have := HS1.out; omega, hB⟩, by simp [intOf]; omega⟩
      · have hkn : k = n := by omega
        subst hkn
        have HR : Hid ((r : Int) = left - k - ((xs.take k).map wtRw).sum) := hr
        clear hr
        go_wp2
        go_ret
        have hA := HA.out
        have hW := HW.out
        have hR := HR.out
        exact ⟨congrArg (fun z => Ending.returned (Value.int .i64 z)) (by unfold szLen; rw [if_neg (by omega)]; omega), hbl⟩
def rowsR : Rep (List Rw) where
  V := fun w v xs => RowsV w v xs ∧ Fit xs
  O := fun w base F v xs => (w.ownsRow base 76 4 v xs.length (rwsC xs) ∧ F = (fun b => v.ownBlock = some b)) ∧ Fit xs
  below := fun h hb => ⟨RowsV_below h.1 hb, h.2⟩
  ofO := fun h => ⟨RowsV_of_owns h.1.1, h.2⟩
  mod := fun h hm hd => ⟨⟨hm.owns h.1.1 (fun b hb => hd b (by rw [h.1.2]; exact hb)), h.1.2⟩, h.2⟩
  rng := fun h b hb => by rw [h.1.2] at hb; exact h.1.1.lt b hb
  base := fun h hb => ⟨⟨owns_base h.1.1 hb, h.1.2⟩, h.2⟩
theorem rows_form {w : World} {v : Value} {xs : List Rw} (h : rowsR.V w v xs) : ∃ a c, v = .slice a xs.length c := by
  obtain ⟨⟨a, c, rfl, _⟩, _⟩ := h
  exact ⟨_, _, rfl⟩
theorem toRowS_u (x : Value) (d : List Rw) (w : World) (hx : rowsR.V w x d) (hn : wtRows d ≤ 1048576) :
    Calls Tryz.prog 49 #[x] w fun e w' => ∃ v F, e = .returned v ∧ rowsR.O w' w.heap.size F v d ∧ Below w.heap.size w w' := by
  refine (toRowS_any x d w hx.1 (by unfold wtRows at hn; omega)).mono ?_
  rintro e w' ⟨v, rfl, ho, hb⟩
  exact ⟨v, _, rfl, ⟨⟨ho, rfl⟩, hx.2⟩, hb⟩
theorem eqRowS_u (x y : Value) (d d' : List Rw) (w : World) (hx : rowsR.V w x d) (hy : rowsR.V w y d') :
    Calls Tryz.prog 59 #[x, y] w fun e w' => e = .returned (.bool (decide (d = d'))) ∧ Below w.heap.size w w' := eqRowS_any x y d d' w hx.1 hy.1
theorem szRowS_u (x : Value) (d : List Rw) (left : Int) (w : World) (hx : rowsR.V w x d) (h0 : 0 ≤ left) (h1 : left ≤ 1048576) :
    Calls Tryz.prog 40 #[x, .int .i64 left] w fun e w' => e = .returned (.int .i64 (szLen left (wtRows d))) ∧ Below w.heap.size w w' := szRowS_any x d left w hx.1 hx.2 h0 h1
end Go.Proofs.YtdfapehonegeeaaGreat

