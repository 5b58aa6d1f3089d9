import Derived.Test.YtdfapehonegeeaaGreatPrnWriteBatchLaw21
import Derived.Test.YtdfapehonegeeaaGreatPrnWriteBatchLaw22
import Derived.Test.YtdfapehonegeeaaGreatPrnWriteBatchLaw10
import Derived.Test.YtdfapehonegeeaaGreatPrnWriteBatchLaw15
import Derived.Deep.RegionLawGrows
import Derived.Laws.CopyRow
import Derived.Laws.Externs
import Derived.Lib.Overlaps
import Derived.Lib.AppendZerosOnto
import Derived.Deep.RegionLaw
import Derived.Test.YtdfapehonegeeaaGreatPrnWriteBatchLaw7

/-
  An engine copied: the program's side.
-/
namespace Go.Proofs.YtdfapehonegeeaaGreat
open Go.RowKit
set_option linter.unusedSectionVars false
variable [DecidableEq Wri] [Inhabited Wri] [DecidableEq BytesR] [Inhabited BytesR] [DecidableEq Rw] [Inhabited Rw] [DecidableEq TabR] [Inhabited TabR] [DecidableEq Logg] [Inhabited Logg] [DecidableEq Engn] [Inhabited Engn] [DecidableEq LoggR] [Inhabited LoggR] [DecidableEq RecsR] [Inhabited RecsR] [DecidableEq Leg] [Inhabited Leg]
set_option linter.unusedVariables false
set_option linter.unusedSimpArgs false
attribute [local go_sem ↓] Go.wp_at_zero Go.wp_at_succ

theorem wt_len (xs : List Rw) : xs.length ≤ wtRows xs := by
  unfold wtRows
  first | omega | (unfold wtL; omega) | exact Nat.le_add_right _ _
theorem wt_lens (xs : List (List Rw)) : xs.length ≤ wtRowss xs := by
  unfold wtRowss wtL
  omega
theorem rowsAnyV {w : World} {v : Value} {xs : List Rw} (h : RowsV w v xs) : AppAny w v xs.length (rwsC xs) := by
  obtain ⟨a, c, rfl, _, _, hc⟩ := h
  cases xs with
  | nil => 
    cases a with
    | none => exact .inl ⟨c, rfl, rfl, rfl⟩
    | some ad => exact .inr ⟨ad, c, rfl, fun j x hj => by simp [rwsC] at hj⟩
  | cons y ys =>
    obtain ⟨b, o, rfl, _⟩ := hc 0 (by simp)
    exact rowsAny_at (fun i hi => by
      obtain ⟨b', o', e, h⟩ := hc i hi
      simp only [Option.some.injEq, Addr.mk.injEq, and_true] at e
      obtain ⟨rfl, rfl⟩ := e
      exact h)
set_option maxHeartbeats 1000000 in
theorem copiedRows_u (x : Value) (xs : List Rw) (w : World) (hx : rowsR.V w x xs) (hn : xs.length ≤ 1048576) :
    Calls Tryz.prog 132 #[x] w fun e w' => ∃ v F, e = .returned v ∧ rowsR.O w' w.heap.size F v xs ∧ Below w.heap.size w w' := by
  obtain ⟨i0, hi, hz0, hz1, hz2⟩ := info_parts infoRw
  have HF : Hid (Fit xs) := hx.2
  have hs0 := rowsAnyV hx.1
  obtain ⟨ax, cx, rfl⟩ := rows_form hx
  have ho0 := World.ownsRow_nil w w.heap.size 76 4
  clear hx
  go_enter Tryz.func132, Tryz.ntmps132
  go_wp2_with (at_builtin; refine wpList_appAny _ rfl _ _ 32 rfl w.heap.size 76 i0 _ 4 48 Tryz.underlying32 hi hz0 hz1 hz2 rfl (by decide) _ 0 [] rfl _ xs.length (rwsC xs) rfl ho0 hs0 ?c1 ?c2 ?c3 ?c4 ?c5 ?_)
  case c1 => rw [length_rwsC]
  case c2 => exact rwsC_oneC xs
  case c3 => unfold maxLen; omega
  case c4 => omega
  case c5 => exact Nat.le_refl _
  intro v' w1 ho hg hb
  have hB1 : Below w.heap.size w w1 := hb w (Below.refl _ _)
  obtain ⟨av, cv, rfl⟩ := owns_form ho
  clear hs0 ho0
  go_wp2
  go_ret
  exact ⟨_, _, rfl, ⟨⟨ho, rfl⟩, HF.out⟩, hB1⟩
def cpiG (d : Engn) (a1 a2 : Option Addr) (c1 c2 : Nat) : Nat → (Nat → Value) → Nat → Nat → World → Prop
  | 3, y, lo, _, w => y 9 = .slice (some ⟨lo, 0, none⟩) 1 1 ∧ w.cell? ⟨lo, 0, none⟩ = some (.slice a1 d.log.synced.length c1)
  | 4, y, lo, hi, w => (∃ a c, y 10 = .slice a d.log.synced.length c) ∧ ∃ F, bytesR.O w lo F (y 10) d.log.synced ∧ ∀ b, F b → b < hi
  | 8, y, lo, _, w => y 14 = .slice (some ⟨lo, 0, none⟩) 1 1 ∧ w.cell? ⟨lo, 0, none⟩ = some (.slice a2 d.log.loose.length c2)
  | 9, y, lo, hi, w => (∃ a c, y 15 = .slice a d.log.loose.length c) ∧ ∃ F, bytesR.O w lo F (y 15) d.log.loose ∧ ∀ b, F b → b < hi
  | 10, y, _, _, _ => ∃ a c b k, y 10 = .slice a d.log.synced.length c ∧ y 15 = .slice b d.log.loose.length k ∧ y 16 = .agg #[.slice a d.log.synced.length c, .slice b d.log.loose.length k]
  | 13, y, lo, hi, w => (∃ a c, y 19 = .slice a d.mem.length c) ∧ ∃ F, rowsR.O w lo F (y 19) d.mem ∧ ∀ b, F b → b < hi
  | 16, y, _, _, _ => ∃ a c b k p q, y 16 = .agg #[.slice a d.log.synced.length c, .slice b d.log.loose.length k] ∧ y 19 = .slice p d.mem.length q ∧ y 22 = .agg #[.slice a d.log.synced.length c, .slice b d.log.loose.length k, .slice p d.mem.length q, .slice none 0 0, .int .i64 d.next]
  | 17, y, lo, hi, w => y 3 = .pointer (some ⟨lo, 0, none⟩) ∧ lo < hi ∧ (w.cell? ⟨lo, 0, none⟩ = some (.slice none 0 0) ∧ w.cell? ⟨lo, 1, none⟩ = some (.slice none 0 0) ∧ w.cell? ⟨lo, 2, none⟩ = some (.slice none 0 0) ∧ w.cell? ⟨lo, 3, none⟩ = some (.slice none 0 0) ∧ w.cell? ⟨lo, 4, none⟩ = some (.int .i64 0)) ∧ ∀ o, w.frozen? ⟨lo, o, none⟩ = false
  | _, _, _, _, _ => True
set_option maxRecDepth 20000 in
set_option maxHeartbeats 8000000 in
theorem copied_u (x : Value) (d : Engn) (w : World) (hx : engnR.V w x d) (hn : wtEngn d ≤ 1048576) :
    Calls Tryz.prog 79 #[x] w fun e w' => ∃ v F, e = .returned v ∧ engnR.O w' w.heap.size F v d ∧ Below w.heap.size w w' := by
  have hX := hx
  obtain ⟨a1, a2, a3, a4, c1, c2, c3, c4, rfl⟩ := engn_form hx
  obtain ⟨u1, u2, u3, u4, e, h1, h2, h3⟩ := hX
  simp only [Value.agg.injEq, Array.mk.injEq, List.cons.injEq, and_true] at e
  obtain ⟨rfl, rfl, rfl, rfl⟩ := e
  obtain ⟨z1, z2, e, V1, V2⟩ := h1
  simp only [Value.agg.injEq, Array.mk.injEq, List.cons.injEq, and_true] at e
  obtain ⟨rfl, rfl⟩ := e
  obtain ⟨i0, hif, hz0, hz1, hz2⟩ := info_parts infoRws
  have hwl : wtLogg d.log ≤ 1048576 := by unfold wtEngn at hn; omega
  have hlm : d.mem.length ≤ 1048576 := by unfold wtEngn at hn; have := wt_len d.mem; omega
  have hlt : d.tables.length ≤ 1048576 := by unfold wtEngn at hn; have := wt_lens d.tables; omega
  have HW : Hid (∀ k, k < d.tables.length → (d.tables.getD k default).length ≤ 1048576) := fun k hk => by
    have h1 : wtRowss d.tables ≤ 1048576 := by unfold wtEngn at hn; omega
    have h2 := (wt_at (f := wtRows) h1 hk).1
    have := wt_len (d.tables.getD k default)
    omega
  have HL1 : Hid (bytesR.V w (.slice a1 d.log.synced.length c1) d.log.synced) := V1
  have HL2 : Hid (bytesR.V w (.slice a2 d.log.loose.length c2) d.log.loose) := V2
  have HLG : Hid (loggR.V w (.agg #[.slice a1 d.log.synced.length c1, .slice a2 d.log.loose.length c2]) d.log) := ⟨_, _, rfl, V1, V2⟩
  have HM : Hid (rowsR.V w (.slice a3 d.mem.length c3) d.mem) := h2
  have hls : d.log.synced.length + d.log.loose.length ≤ 1048576 := by unfold wtLogg wtBytes at hwl; omega
  obtain ⟨a4', c4', e, hc4, hm4, hT⟩ := h3
  simp only [Value.slice.injEq, true_and] at e
  obtain ⟨rfl, rfl⟩ := e
  unfold maxLen at hm4
  clear V1 V2 h2 hx hn
  go_enter Tryz.func79, Tryz.ntmps79
  go_wp2
  refine wp_region_noPanic ?_
  refine region_upto (fun w' => Below w.heap.size w w' ∧ w'.cell? ⟨w.heap.size, 0, none⟩ = some (.slice a1 d.log.synced.length c1) ∧ w'.cell? ⟨w.heap.size, 1, none⟩ = some (.slice a2 d.log.loose.length c2) ∧ w'.cell? ⟨w.heap.size, 2, none⟩ = some (.slice a3 d.mem.length c3) ∧ w'.cell? ⟨w.heap.size, 3, none⟩ = some (.slice a4 d.tables.length c4) ∧ w'.cell? ⟨w.heap.size, 4, none⟩ = some (.int .i64 d.next)) 18 (by kernel_rfl) ⟨by (repeat (first | exact Below.refl _ _ | assumption | refine Below.drew ?_ | refine balloc ?_ _ | refine bset ?_ (by simp; omega) _ | refine bset ?_ (by simp) _ | refine bstep ?_ (by assumption))), by simp [go_sem], by simp [go_sem], by simp [go_sem], by simp [go_sem], by simp [go_sem]⟩ (fun hS => ?_)
  refine upto_take (i := 0) (v := ?_) rfl (by kernel_rfl) (by kernel_rfl) (by kernel_rfl) (by kernel_rfl) (fun _ _ _ h => h) (by rfl) hS ?_ ?_
  rotate_left
  · intro wS hSw
    try dsimp only at hSw
    first | (go_simp; done) | (go_simp; with_reducible rfl)
  try simp only [Act.put, List.getElem_toArray, List.getElem_cons_zero, List.getElem_cons_succ, List.setIfInBounds_toArray, List.set_cons_zero, List.set_cons_succ]
  refine upto_take (i := 1) (v := ?_) rfl (by kernel_rfl) (by kernel_rfl) (by kernel_rfl) (by kernel_rfl) (fun _ _ _ h => h) (by rfl) hS ?_ ?_
  rotate_left
  · intro wS hSw
    try dsimp only at hSw
    first | (go_simp; done) | (go_simp; with_reducible rfl)
  try simp only [Act.put, List.getElem_toArray, List.getElem_cons_zero, List.getElem_cons_succ, List.setIfInBounds_toArray, List.set_cons_zero, List.set_cons_succ]
  refine upto_take (i := 2) (v := ?_) rfl (by kernel_rfl) (by kernel_rfl) (by kernel_rfl) (by kernel_rfl) (fun _ _ _ h => h) (by rfl) hS ?_ ?_
  rotate_left
  · intro wS hSw
    try dsimp only at hSw
    first | (go_simp; done) | (go_simp; with_reducible rfl)
  try simp only [Act.put, List.getElem_toArray, List.getElem_cons_zero, List.getElem_cons_succ, List.setIfInBounds_toArray, List.set_cons_zero, List.set_cons_succ]
  refine upto_take (i := 5) (v := ?_) rfl (by kernel_rfl) (by kernel_rfl) (by kernel_rfl) (by kernel_rfl) (fun _ _ _ h => h) (by rfl) hS ?_ ?_
  rotate_left
  · intro wS hSw
    try dsimp only at hSw
    first | (go_simp; done) | (go_simp; with_reducible rfl)
  try simp only [Act.put, List.getElem_toArray, List.getElem_cons_zero, List.getElem_cons_succ, List.setIfInBounds_toArray, List.set_cons_zero, List.set_cons_succ]
  refine upto_take (i := 6) (v := ?_) rfl (by kernel_rfl) (by kernel_rfl) (by kernel_rfl) (by kernel_rfl) (fun _ _ _ h => h) (by rfl) hS ?_ ?_
  rotate_left
  · intro wS hSw
    try dsimp only at hSw
    first | (go_simp; done) | (go_simp; with_reducible rfl)
  try simp only [Act.put, List.getElem_toArray, List.getElem_cons_zero, List.getElem_cons_succ, List.setIfInBounds_toArray, List.set_cons_zero, List.set_cons_succ]
  refine upto_take (i := 7) (v := ?_) rfl (by kernel_rfl) (by kernel_rfl) (by kernel_rfl) (by kernel_rfl) (fun _ _ _ h => h) (by rfl) hS ?_ ?_
  rotate_left
  · intro wS hSw
    try dsimp only at hSw
    first | (go_simp; done) | (go_simp; with_reducible rfl)
  try simp only [Act.put, List.getElem_toArray, List.getElem_cons_zero, List.getElem_cons_succ, List.setIfInBounds_toArray, List.set_cons_zero, List.set_cons_succ]
  refine upto_take (i := 11) (v := ?_) rfl (by kernel_rfl) (by kernel_rfl) (by kernel_rfl) (by kernel_rfl) (fun _ _ _ h => h) (by rfl) hS ?_ ?_
  rotate_left
  · intro wS hSw
    try dsimp only at hSw
    first | (go_simp; done) | (go_simp; with_reducible rfl)
  try simp only [Act.put, List.getElem_toArray, List.getElem_cons_zero, List.getElem_cons_succ, List.setIfInBounds_toArray, List.set_cons_zero, List.set_cons_succ]
  refine upto_take (i := 12) (v := ?_) rfl (by kernel_rfl) (by kernel_rfl) (by kernel_rfl) (by kernel_rfl) (fun _ _ _ h => h) (by rfl) hS ?_ ?_
  rotate_left
  · intro wS hSw
    try dsimp only at hSw
    first | (go_simp; done) | (go_simp; with_reducible rfl)
  try simp only [Act.put, List.getElem_toArray, List.getElem_cons_zero, List.getElem_cons_succ, List.setIfInBounds_toArray, List.set_cons_zero, List.set_cons_succ]
  refine upto_take (i := 14) (v := ?_) rfl (by kernel_rfl) (by kernel_rfl) (by kernel_rfl) (by kernel_rfl) (fun _ _ _ h => h) (by rfl) hS ?_ ?_
  rotate_left
  · intro wS hSw
    try dsimp only at hSw
    first | (go_simp; done) | (go_simp; with_reducible rfl)
  try simp only [Act.put, List.getElem_toArray, List.getElem_cons_zero, List.getElem_cons_succ, List.setIfInBounds_toArray, List.set_cons_zero, List.set_cons_succ]
  refine upto_take (i := 15) (v := ?_) rfl (by kernel_rfl) (by kernel_rfl) (by kernel_rfl) (by kernel_rfl) (fun _ _ _ h => h) (by rfl) hS ?_ ?_
  rotate_left
  · intro wS hSw
    try dsimp only at hSw
    first | (go_simp; done) | (go_simp; with_reducible rfl)
  try simp only [Act.put, List.getElem_toArray, List.getElem_cons_zero, List.getElem_cons_succ, List.setIfInBounds_toArray, List.set_cons_zero, List.set_cons_succ]
  have hs0 : ((w.alloc (.cells #[.slice a1 d.log.synced.length c1, .slice a2 d.log.loose.length c2, .slice a3 d.mem.length c3, .slice a4 d.tables.length c4, .int .i64 d.next] 35)).alloc (.cells #[.slice none 0 0, .slice none 0 0, .slice none 0 0, .slice none 0 0, .int .i64 0] 35)).drew.heap.size = w.heap.size + 2 := by simp
  have q0 : ((w.alloc (.cells #[.slice a1 d.log.synced.length c1, .slice a2 d.log.loose.length c2, .slice a3 d.mem.length c3, .slice a4 d.tables.length c4, .int .i64 d.next] 35)).alloc (.cells #[.slice none 0 0, .slice none 0 0, .slice none 0 0, .slice none 0 0, .int .i64 0] 35)).drew.cell? ⟨w.heap.size + 1, 0, none⟩ = some (.slice none 0 0) := by simp [go_sem]
  have q1 : ((w.alloc (.cells #[.slice a1 d.log.synced.length c1, .slice a2 d.log.loose.length c2, .slice a3 d.mem.length c3, .slice a4 d.tables.length c4, .int .i64 d.next] 35)).alloc (.cells #[.slice none 0 0, .slice none 0 0, .slice none 0 0, .slice none 0 0, .int .i64 0] 35)).drew.cell? ⟨w.heap.size + 1, 1, none⟩ = some (.slice none 0 0) := by simp [go_sem]
  have q2 : ((w.alloc (.cells #[.slice a1 d.log.synced.length c1, .slice a2 d.log.loose.length c2, .slice a3 d.mem.length c3, .slice a4 d.tables.length c4, .int .i64 d.next] 35)).alloc (.cells #[.slice none 0 0, .slice none 0 0, .slice none 0 0, .slice none 0 0, .int .i64 0] 35)).drew.cell? ⟨w.heap.size + 1, 2, none⟩ = some (.slice none 0 0) := by simp [go_sem]
  have q3 : ((w.alloc (.cells #[.slice a1 d.log.synced.length c1, .slice a2 d.log.loose.length c2, .slice a3 d.mem.length c3, .slice a4 d.tables.length c4, .int .i64 d.next] 35)).alloc (.cells #[.slice none 0 0, .slice none 0 0, .slice none 0 0, .slice none 0 0, .int .i64 0] 35)).drew.cell? ⟨w.heap.size + 1, 3, none⟩ = some (.slice none 0 0) := by simp [go_sem]
  have q4 : ((w.alloc (.cells #[.slice a1 d.log.synced.length c1, .slice a2 d.log.loose.length c2, .slice a3 d.mem.length c3, .slice a4 d.tables.length c4, .int .i64 d.next] 35)).alloc (.cells #[.slice none 0 0, .slice none 0 0, .slice none 0 0, .slice none 0 0, .int .i64 0] 35)).drew.cell? ⟨w.heap.size + 1, 4, none⟩ = some (.int .i64 0) := by simp [go_sem]
  have qf : ∀ o, ((w.alloc (.cells #[.slice a1 d.log.synced.length c1, .slice a2 d.log.loose.length c2, .slice a3 d.mem.length c3, .slice a4 d.tables.length c4, .int .i64 d.next] 35)).alloc (.cells #[.slice none 0 0, .slice none 0 0, .slice none 0 0, .slice none 0 0, .int .i64 0] 35)).drew.frozen? ⟨w.heap.size + 1, o, none⟩ = false := fun o => by simp [go_sem]
  have hb0 : Below w.heap.size w ((w.alloc (.cells #[.slice a1 d.log.synced.length c1, .slice a2 d.log.loose.length c2, .slice a3 d.mem.length c3, .slice a4 d.tables.length c4, .int .i64 d.next] 35)).alloc (.cells #[.slice none 0 0, .slice none 0 0, .slice none 0 0, .slice none 0 0, .int .i64 0] 35)).drew := hS.1
  generalize ((w.alloc (.cells #[.slice a1 d.log.synced.length c1, .slice a2 d.log.loose.length c2, .slice a3 d.mem.length c3, .slice a4 d.tables.length c4, .int .i64 d.next] 35)).alloc (.cells #[.slice none 0 0, .slice none 0 0, .slice none 0 0, .slice none 0 0, .int .i64 0] 35)).drew = W0 at *
  have HS0 : Hid (W0.heap.size = w.heap.size + 2) := hs0
  clear hs0
  refine upto_stable' [(3, 9), (4, 10), (8, 14), (9, 15), (10, 16), (13, 19), (16, 22), (17, 3)] (cpiG d a1 a2 c1 c2) (by kernel_rfl) hS (fun W W' h hb => ⟨bstep h.1 hb, cell_keep hb h.2.1, cell_keep hb h.2.2.1, cell_keep hb h.2.2.2.1, cell_keep hb h.2.2.2.2.1, cell_keep hb h.2.2.2.2.2⟩) ?_ ?_ ?_
  · intro p hp
    simp only [List.mem_cons, List.not_mem_nil, or_false] at hp
    rcases hp with rfl | rfl | rfl | rfl | rfl | rfl | rfl | rfl
    · intro y y' lo hi W W' h hi' hb e _
      simp only [cpiG] at h ⊢
      rw [e]
      exact ⟨h.1, cell_keep hb h.2⟩
    · intro y y' lo hi W W' h hi' hb e _
      simp only [cpiG] at h ⊢
      rw [e]
      obtain ⟨h1, F, h2, h3⟩ := h
      exact ⟨h1, F, bytesR.keep h2 hb, h3⟩
    · intro y y' lo hi W W' h hi' hb e _
      simp only [cpiG] at h ⊢
      rw [e]
      exact ⟨h.1, cell_keep hb h.2⟩
    · intro y y' lo hi W W' h hi' hb e _
      simp only [cpiG] at h ⊢
      rw [e]
      obtain ⟨h1, F, h2, h3⟩ := h
      exact ⟨h1, F, bytesR.keep h2 hb, h3⟩
    · intro y y' lo hi W W' h hi' hb e he
      have e0 := he (4, 10) (by simp) (by kernel_rfl)
      have e1 := he (9, 15) (by simp) (by kernel_rfl)
      simp only [cpiG] at h ⊢
      rw [e, e0, e1]
      exact h
    · intro y y' lo hi W W' h hi' hb e _
      simp only [cpiG] at h ⊢
      rw [e]
      obtain ⟨h1, F, h2, h3⟩ := h
      exact ⟨h1, F, rowsR.keep h2 hb, h3⟩
    · intro y y' lo hi W W' h hi' hb e he
      have e0 := he (10, 16) (by simp) (by kernel_rfl)
      have e1 := he (13, 19) (by simp) (by kernel_rfl)
      simp only [cpiG] at h ⊢
      rw [e, e0, e1]
      exact h
    · intro y y' lo hi W W' h hi' hb e _
      simp only [cpiG] at h ⊢
      rw [e]
      obtain ⟨h1, h2, ⟨g0, g1, g2, g3, g4⟩, h4⟩ := h
      exact ⟨h1, h2, ⟨cell_keep hb g0, cell_keep hb g1, cell_keep hb g2, cell_keep hb g3, cell_keep hb g4⟩, fun o => by rw [(bcell hb).2 _ _ (Nat.lt_of_lt_of_le h2 hi'.2.2)]; exact h4 o⟩
  · intro p hp
    simp only [List.mem_cons, List.not_mem_nil, or_false] at hp
    rcases hp with rfl | rfl | rfl | rfl | rfl | rfl | rfl | rfl
    all_goals
      refine ⟨_, rfl, rfl, ?_⟩
      intro y W lo hi hSW hBW hd hap K hK
      clear hap
    · clear hd
      refine ⟨?_⟩
      simp only [over, Act.put, List.getElem_toArray, List.getElem_cons_zero, List.getElem_cons_succ, List.map_cons, List.map_nil, List.foldl_cons, List.foldl_nil, List.setIfInBounds_toArray, List.set_cons_zero, List.set_cons_succ] at hK ⊢
      go_simp
      refine hK _ _ (by (repeat (first | exact Below.refl _ _ | assumption | refine Below.drew ?_ | refine balloc ?_ _ | refine bset ?_ (by simp; omega) _ | refine bset ?_ (by simp) _ | refine bstep ?_ (by assumption)))) ?_
      simp only [cpiG, updV]
      exact ⟨rfl, by simp [go_sem]⟩
    · have g0 := (hd (3, 9) (by simp) (by kernel_rfl)).2
      clear hd
      simp only [cpiG] at g0
      refine ⟨?_⟩
      simp only [over, Act.put, List.getElem_toArray, List.getElem_cons_zero, List.getElem_cons_succ, List.map_cons, List.map_nil, List.foldl_cons, List.foldl_nil, List.setIfInBounds_toArray, List.set_cons_zero, List.set_cons_succ] at hK ⊢
      simp only [g0.1] at hK ⊢
      go_simp
      refine (joined_any _ [d.log.synced] _ (bytess1 g0.2 (bytesR.below HL1.out hSW.1)) (by simp; omega)).mono ?_
      rintro e w' ⟨v, F, rfl, o3, hb3⟩
      have e1 : [d.log.synced].flatten = d.log.synced := by simp
      rw [e1] at o3
      refine hK _ _ hb3 ?_
      simp only [cpiG, updV]
      obtain ⟨av, cv, hv⟩ := bytes_form (bytesR.ofO o3)
      exact ⟨⟨av, cv, by simpa using hv⟩, F, by simpa using o3, fun b hb => (bytesR.rng o3 b hb).2⟩
    · clear hd
      refine ⟨?_⟩
      simp only [over, Act.put, List.getElem_toArray, List.getElem_cons_zero, List.getElem_cons_succ, List.map_cons, List.map_nil, List.foldl_cons, List.foldl_nil, List.setIfInBounds_toArray, List.set_cons_zero, List.set_cons_succ] at hK ⊢
      go_simp
      refine hK _ _ (by (repeat (first | exact Below.refl _ _ | assumption | refine Below.drew ?_ | refine balloc ?_ _ | refine bset ?_ (by simp; omega) _ | refine bset ?_ (by simp) _ | refine bstep ?_ (by assumption)))) ?_
      simp only [cpiG, updV]
      exact ⟨rfl, by simp [go_sem]⟩
    · have g0 := (hd (8, 14) (by simp) (by kernel_rfl)).2
      clear hd
      simp only [cpiG] at g0
      refine ⟨?_⟩
      simp only [over, Act.put, List.getElem_toArray, List.getElem_cons_zero, List.getElem_cons_succ, List.map_cons, List.map_nil, List.foldl_cons, List.foldl_nil, List.setIfInBounds_toArray, List.set_cons_zero, List.set_cons_succ] at hK ⊢
      simp only [g0.1] at hK ⊢
      go_simp
      refine (joined_any _ [d.log.loose] _ (bytess1 g0.2 (bytesR.below HL2.out hSW.1)) (by simp; omega)).mono ?_
      rintro e w' ⟨v, F, rfl, o3, hb3⟩
      have e1 : [d.log.loose].flatten = d.log.loose := by simp
      rw [e1] at o3
      refine hK _ _ hb3 ?_
      simp only [cpiG, updV]
      obtain ⟨av, cv, hv⟩ := bytes_form (bytesR.ofO o3)
      exact ⟨⟨av, cv, by simpa using hv⟩, F, by simpa using o3, fun b hb => (bytesR.rng o3 b hb).2⟩
    · have g3 := (hd (4, 10) (by simp) (by kernel_rfl)).2
      have g7 := (hd (9, 15) (by simp) (by kernel_rfl)).2
      clear hd
      simp only [cpiG] at g3 g7
      obtain ⟨⟨a6, c6, e6⟩, _⟩ := g3
      obtain ⟨⟨a7, c7, e7⟩, _⟩ := g7
      refine ⟨?_⟩
      simp only [over, Act.put, List.getElem_toArray, List.getElem_cons_zero, List.getElem_cons_succ, List.map_cons, List.map_nil, List.foldl_cons, List.foldl_nil, List.setIfInBounds_toArray, List.set_cons_zero, List.set_cons_succ] at hK ⊢
      simp only [e6, e7] at hK ⊢
      go_simp
      refine hK _ _ (Below.refl _ _) ?_
      simp only [cpiG, updV]
      exact ⟨a6, c6, a7, c7, by simp [e6], by simp [e7], by simp⟩
    · clear hd
      refine ⟨?_⟩
      simp only [over, Act.put, List.getElem_toArray, List.getElem_cons_zero, List.getElem_cons_succ, List.map_cons, List.map_nil, List.foldl_cons, List.foldl_nil, List.setIfInBounds_toArray, List.set_cons_zero, List.set_cons_succ] at hK ⊢
      go_simp
      refine (copiedRows_u _ d.mem _ (rowsR.below HM.out hSW.1) hlm).mono ?_
      rintro e w' ⟨v, F, rfl, o3, hb3⟩
      refine hK _ _ hb3 ?_
      simp only [cpiG, updV]
      obtain ⟨av, cv, hv⟩ := rows_form (rowsR.ofO o3)
      exact ⟨⟨av, cv, by simpa using hv⟩, F, by simpa using o3, fun b hb => (rowsR.rng o3 b hb).2⟩
    · have g3 := (hd (10, 16) (by simp) (by kernel_rfl)).2
      have g7 := (hd (13, 19) (by simp) (by kernel_rfl)).2
      clear hd
      simp only [cpiG] at g3 g7
      obtain ⟨a6, c6, a7, c7, -, -, e6⟩ := g3
      obtain ⟨⟨a8, c8, e7⟩, _⟩ := g7
      refine ⟨?_⟩
      simp only [over, Act.put, List.getElem_toArray, List.getElem_cons_zero, List.getElem_cons_succ, List.map_cons, List.map_nil, List.foldl_cons, List.foldl_nil, List.setIfInBounds_toArray, List.set_cons_zero, List.set_cons_succ] at hK ⊢
      simp only [e6, e7] at hK ⊢
      go_simp
      refine hK _ _ (Below.refl _ _) ?_
      simp only [cpiG, updV]
      exact ⟨a6, c6, a7, c7, a8, c8, by simp [e6], by simp [e7], by simp⟩
    · clear hd
      refine ⟨?_⟩
      simp only [over, Act.put, List.getElem_toArray, List.getElem_cons_zero, List.getElem_cons_succ, List.map_cons, List.map_nil, List.foldl_cons, List.foldl_nil, List.setIfInBounds_toArray, List.set_cons_zero, List.set_cons_succ] at hK ⊢
      go_simp
      refine hK _ _ (by (repeat (first | exact Below.refl _ _ | assumption | refine Below.drew ?_ | refine balloc ?_ _ | refine bset ?_ (by simp; omega) _ | refine bset ?_ (by simp) _ | refine bstep ?_ (by assumption)))) ?_
      simp only [cpiG, updV]
      exact ⟨rfl, by simp, ⟨by simp [go_sem], by simp [go_sem], by simp [go_sem], by simp [go_sem], by simp [go_sem]⟩, fun o => by simp [go_sem]⟩
  · refine ⟨_, rfl, ?_⟩
    intro y W lo hi hSW hBW hd hap K hK
    have g4 := hd (4, 10) (by simp)
    have g9 := hd (9, 15) (by simp)
    have g10 := (hd (10, 16) (by simp)).2
    have g13 := hd (13, 19) (by simp)
    have g16 := (hd (16, 22) (by simp)).2
    have g17 := hd (17, 3) (by simp)
    clear hd
    have p1 := hap (4, 10) (by simp) (9, 15) (by simp) (by simp)
    have p2 := hap (4, 10) (by simp) (13, 19) (by simp) (by simp)
    have p3 := hap (4, 10) (by simp) (17, 3) (by simp) (by simp)
    have p4 := hap (9, 15) (by simp) (13, 19) (by simp) (by simp)
    have p5 := hap (9, 15) (by simp) (17, 3) (by simp) (by simp)
    have p6 := hap (13, 19) (by simp) (17, 3) (by simp) (by simp)
    clear hap
    simp only [cpiG, Apart, InB] at g4 g9 g10 g13 g16 g17 p1 p2 p3 p4 p5 p6
    obtain ⟨b4, _, F1, o1, f1⟩ := g4
    obtain ⟨b9, _, F2, o2, f2⟩ := g9
    obtain ⟨b13, _, F3, o3, f3⟩ := g13
    obtain ⟨b17, e17, hlh, ⟨k0, k1, k2, k3, k4⟩, kf⟩ := g17
    obtain ⟨a6, c6, a7, c7, e10, e15, e16⟩ := g10
    obtain ⟨_, _, _, _, a8, c8, e16', e19, e22⟩ := g16
    rw [e16] at e16'
    simp only [Value.agg.injEq, Array.mk.injEq, List.cons.injEq, Value.slice.injEq, and_true, true_and] at e16'
    obtain ⟨⟨rfl, rfl⟩, rfl, rfl⟩ := e16'
    have hl1 : ∀ b, F1 b → lo 4 ≤ b := fun b hb => (bytesR.rng o1 b hb).1
    have hl2 : ∀ b, F2 b → lo 9 ≤ b := fun b hb => (bytesR.rng o2 b hb).1
    have hl3 : ∀ b, F3 b → lo 13 ≤ b := fun b hb => (rowsR.rng o3 b hb).1
    have hd12 : ∀ b, F1 b → ¬ F2 b := fun b q1 q2 => by have := f1 b q1; have := f2 b q2; have := hl1 b q1; have := hl2 b q2; omega
    have hd13 : ∀ b, F1 b → ¬ F3 b := fun b q1 q2 => by have := f1 b q1; have := f3 b q2; have := hl1 b q1; have := hl3 b q2; omega
    have hd23 : ∀ b, F2 b → ¬ F3 b := fun b q1 q2 => by have := f2 b q1; have := f3 b q2; have := hl2 b q1; have := hl3 b q2; omega
    have hn1 : ¬ F1 (lo 17) := fun q => by have := f1 _ q; have := hl1 _ q; omega
    have hn2 : ¬ F2 (lo 17) := fun q => by have := f2 _ q; have := hl2 _ q; omega
    have hn3 : ¬ F3 (lo 17) := fun q => by have := f3 _ q; have := hl3 _ q; omega
    have hBlo : W0.heap.size ≤ lo 17 := b17.1
    replace o1 := bytesR.base (base' := W0.heap.size) o1 (by omega)
    replace o2 := bytesR.base (base' := W0.heap.size) o2 (by omega)
    replace o3 := rowsR.base (base' := W0.heap.size) o3 (by omega)
    rw [e10] at o1
    rw [e15] at o2
    rw [e19] at o3
    generalize lo 17 = B at *
    refine ⟨?_⟩
    simp only [over, Act.put, List.getElem_toArray, List.getElem_cons_zero, List.getElem_cons_succ, List.map_cons, List.map_nil, List.foldl_cons, List.foldl_nil, List.setIfInBounds_toArray, List.set_cons_zero, List.set_cons_succ]
    simp only [e22, e17]
    clear e10 e15 e16 e19 e22 e17 b4 b9 b13 b17 p1 p2 p3 p4 p5 p6 f1 f2 f3 hl1 hl2 hl3 hSW
    go_simp
    refine hK _ _ ?_
    clear hK K hlh
    refine NoPanic.normal ?_
    have hsz0 := HS0.out
    have hW : Below W0.heap.size W0 W := hBW
    have hm5 : Mod (fun b => b = B) W (((((W.setCell ⟨B, 0, none⟩ (.slice a6 d.log.synced.length c6)).setCell ⟨B, 1, none⟩ (.slice a7 d.log.loose.length c7)).setCell ⟨B, 2, none⟩ (.slice a8 d.mem.length c8)).setCell ⟨B, 3, none⟩ (.slice none 0 0)).setCell ⟨B, 4, none⟩ (.int .i64 d.next)) := ((((Mod.of_set W ⟨B, 0, none⟩ _).trans (Mod.of_set _ ⟨B, 1, none⟩ _)).trans (Mod.of_set _ ⟨B, 2, none⟩ _)).trans (Mod.of_set _ ⟨B, 3, none⟩ _)).trans (Mod.of_set _ ⟨B, 4, none⟩ _)
    have CS : CpSt W0 (((((W.setCell ⟨B, 0, none⟩ (.slice a6 d.log.synced.length c6)).setCell ⟨B, 1, none⟩ (.slice a7 d.log.loose.length c7)).setCell ⟨B, 2, none⟩ (.slice a8 d.mem.length c8)).setCell ⟨B, 3, none⟩ (.slice none 0 0)).setCell ⟨B, 4, none⟩ (.int .i64 d.next)) W0.heap.size B d 0 (.slice a6 d.log.synced.length c6) (.slice a7 d.log.loose.length c7) (.slice a8 d.mem.length c8) (.slice none 0 0) (fun b => F1 b ∨ F2 b) F3 [] (fun _ => .nilFunc) (fun _ _ => False) := by
      refine ⟨by simp [go_sem, k0, k1, k2, k3, k4, kf], by simp [go_sem, k0, k1, k2, k3, k4, kf], by simp [go_sem, k0, k1, k2, k3, k4, kf], by simp [go_sem, k0, k1, k2, k3, k4, kf], by simp [go_sem, k0, k1, k2, k3, k4, kf], fun o => by simp [go_sem, kf], hBlo, ?_, ?_, ?_, ?_, ?_, ?_, ?_, hn3, ?_, ?_⟩
      · exact loggR.mod (G := fun b => b = B) ⟨_, _, F1, F2, rfl, o1, o2, hd12, fun _ => Iff.rfl⟩ hm5 (fun b hb e => hb.elim (fun h => hn1 (e ▸ h)) (fun h => hn2 (e ▸ h)))
      · exact rowsR.mod (G := fun b => b = B) o3 hm5 (fun b hb e => hn3 (e ▸ hb))
      · exact ⟨World.ownsRow_nil _ _ _ _, fun i hi => absurd hi (Nat.not_lt_zero _), fun i hi => absurd hi (Nat.not_lt_zero _), fun i hi => absurd hi (Nat.not_lt_zero _), fun i hi => absurd hi (Nat.not_lt_zero _), fun i j hi => absurd hi (Nat.not_lt_zero _)⟩
      · exact fun b hb => hb.elim (hd13 b) (hd23 b)
      · exact fun b _ => ⟨fun e => by simp [Value.ownBlock] at e, fun i hi => absurd hi (Nat.not_lt_zero _)⟩
      · exact fun b _ => ⟨fun e => by simp [Value.ownBlock] at e, fun i hi => absurd hi (Nat.not_lt_zero _)⟩
      · exact fun h => h.elim hn1 hn2
      · exact ⟨fun e => by simp [Value.ownBlock] at e, fun i hi => absurd hi (Nat.not_lt_zero _)⟩
      · exact hm5.below hW hW.size (fun b e => by rw [e]; exact hBlo)
    generalize ((((W.setCell ⟨B, 0, none⟩ (.slice a6 d.log.synced.length c6)).setCell ⟨B, 1, none⟩ (.slice a7 d.log.loose.length c7)).setCell ⟨B, 2, none⟩ (.slice a8 d.mem.length c8)).setCell ⟨B, 3, none⟩ (.slice none 0 0)).setCell ⟨B, 4, none⟩ (.int .i64 d.next) = W5 at *
    have HC : Hid (CpSt W0 W5 W0.heap.size B d 0 (.slice a6 d.log.synced.length c6) (.slice a7 d.log.loose.length c7) (.slice a8 d.mem.length c8) (.slice none 0 0) (fun b => F1 b ∨ F2 b) F3 [] (fun _ => .nilFunc) (fun _ _ => False)) := CS
    clear CS hm5 k0 k1 k2 k3 k4 kf o1 o2 o3 hd12 hd13 hd23 hn1 hn2 hn3 hW hBW HL1 HL2 HLG HM
    have x0 := hS.2.1
    have x1 := hS.2.2.1
    have x2 := hS.2.2.2.1
    have x3 := hS.2.2.2.2.1
    have x4 := hS.2.2.2.2.2
    clear hS
    have y3 := cell_keep HC.out.blw x3
    go_wp2
    go_loopw [26] (fun i W => ∃ (k : Nat) (v : Value) (cs : List Value) (us : Nat → Value) (fs : Nat → Nat → Prop), k ≤ d.tables.length ∧ i = .int .i64 k ∧ Hid (CpSt W0 W W0.heap.size B d k (.slice a6 d.log.synced.length c6) (.slice a7 d.log.loose.length c7) (.slice a8 d.mem.length c8) v (fun b => F1 b ∨ F2 b) F3 cs us fs)) (fun i _ => d.tables.length - (intOf i).toNat)
    case atStart => exact ⟨0, _, _, _, _, Nat.zero_le _, rfl, HC⟩
    case round =>
      obtain ⟨k, v, cs, us, fs, hk, rfl, HCk⟩ := hrel
      clear HC y3
      obtain ⟨av, cv, rfl⟩ := owns_form HCk.out.o3.row
      by_cases hkt : k < d.tables.length
      · obtain ⟨b, o, u, rfl, _, hc, hu⟩ := hT k hkt
        have hbw := HCk.out.blw
        have hBk : Below w.heap.size w wr := bstep hb0 hbw
        have g0 := cell_keep hBk (cells1 hc)
        have hlk := HW.out k hkt
        have hCR : ∀ W, Below wr.heap.size wr W → Calls Tryz.prog 132 #[u] W fun e w' => ∃ v F, e = .returned v ∧ rowsR.O w' W.heap.size F v (d.tables.getD k default) ∧ Below W.heap.size W w' := fun W hW => copiedRows_u u (d.tables.getD k default) W (rowsR.below hu (bstep hBk hW)) hlk
        have hi5 : (k : Int) < d.tables.length := by omega
        have hi4 : (0 : Int) ≤ k := by omega
        have hB3 := HCk.out.c3
        have hBf := HCk.out.fz
        have hzB := World.block_lt_of_cell? _ _ hB3
        dsimp only at hzB
        clear hc hu hT HW
        obtain ⟨l, hl⟩ : ∃ l, d.tables.getD k default = l := ⟨_, rfl⟩
        have HLL : Hid (d.tables.getD k default = l) := hl
        rw [hl] at hCR
        clear hl hlk
        generalize hlt' : d.tables.length = lt at *
        have HLT : Hid (d.tables.length = lt) := hlt'
        clear hlt'
        go_wp2
        refine wp_region_noPanic ?_
        refine region_upto (fun w' => w'.cell? ⟨B, 3, none⟩ = some (.slice av k cv)) 7 (by kernel_rfl) (cell_keep (by (repeat (first | exact Below.refl _ _ | assumption | refine Below.drew ?_ | refine balloc ?_ _ | refine bset ?_ (by simp; omega) _ | refine bset ?_ (by simp) _ | refine bstep ?_ (by assumption)))) hB3) (fun hS => ?_)
        refine upto_take (i := 0) (v := ?_) rfl (by kernel_rfl) (by kernel_rfl) (by kernel_rfl) (by kernel_rfl) (fun _ _ _ h => h) (by rfl) hS ?_ ?_
        rotate_left
        · intro wS hSw
          try dsimp only at hSw
          first | (go_simp; done) | (go_simp; with_reducible rfl)
        try simp only [Act.put, List.getElem_toArray, List.getElem_cons_zero, List.getElem_cons_succ, List.setIfInBounds_toArray, List.set_cons_zero, List.set_cons_succ]
        refine upto_take (i := 1) (v := ?_) rfl (by kernel_rfl) (by kernel_rfl) (by kernel_rfl) (by kernel_rfl) (fun _ _ _ h => h) (by rfl) hS ?_ ?_
        rotate_left
        · intro wS hSw
          try dsimp only at hSw
          first | (go_simp; done) | (go_simp; with_reducible rfl)
        try simp only [Act.put, List.getElem_toArray, List.getElem_cons_zero, List.getElem_cons_succ, List.setIfInBounds_toArray, List.set_cons_zero, List.set_cons_succ]
        refine upto_take (i := 2) (v := ?_) rfl (by kernel_rfl) (by kernel_rfl) (by kernel_rfl) (by kernel_rfl) (fun _ _ _ h => h) (by rfl) hS ?_ ?_
        rotate_left
        · intro wS hSw
          try dsimp only at hSw
          first | (go_simp; done) | (go_simp; with_reducible rfl)
        try simp only [Act.put, List.getElem_toArray, List.getElem_cons_zero, List.getElem_cons_succ, List.setIfInBounds_toArray, List.set_cons_zero, List.set_cons_succ]
        refine upto_step (i := 3) (by kernel_rfl) rfl ?_
        intro K hK
        go_simp
        have hbd : Below wr.heap.size wr wr.drew := Below.drew (Below.refl _ _)
        refine (hCR _ hbd).mono ?_
        rintro e w3 ⟨v3, F4, rfl, ho3, hb3⟩
        obtain ⟨a9, c9, rfl⟩ := rows_form (rowsR.ofO ho3)
        have hS3 : (fun w' : World => w'.cell? ⟨B, 3, none⟩ = some (.slice av k cv)) w3 := cell_keep hb3 hS
        refine hK _ _ (fun _ => hS3) ?_
        clear hK K
        try simp only [Act.put, List.getElem_toArray, List.getElem_cons_zero, List.getElem_cons_succ, List.setIfInBounds_toArray, List.set_cons_zero, List.set_cons_succ]
        refine upto_step (i := 4) (by kernel_rfl) rfl ?_
        intro K hK
        go_simp
        have hS4 : (fun w' : World => w'.cell? ⟨B, 3, none⟩ = some (.slice av k cv)) (w3.alloc (.cells #[.slice a9 l.length c9] 32)) := cell_keep (balloc (Below.refl _ _) _) hS3
        refine hK _ _ (fun _ => hS4) ?_
        clear hK K
        try simp only [Act.put, List.getElem_toArray, List.getElem_cons_zero, List.getElem_cons_succ, List.setIfInBounds_toArray, List.set_cons_zero, List.set_cons_succ]
        have hbA : Below wr.heap.size wr (w3.alloc (.cells #[.slice a9 l.length c9] 32)) := balloc (bstep hbd hb3) _
        have hoA : rowsR.O (w3.alloc (.cells #[.slice a9 l.length c9] 32)) wr.heap.size F4 (.slice a9 l.length c9) l := rowsR.base (rowsR.alloc ho3 _) hbd.size
        have hbz := hbw.size
        refine upto_step (i := 5) (by kernel_rfl) rfl ?_
        intro K hK
        refine step_append_at _ rfl _ _ 33 rfl W0.heap.size 32 i0 _ 1 24 Tryz.underlying33 hif hz0 hz1 hz2 rfl (by decide) _ k cs rfl (owns_below HCk.out.o3.row hbA) ⟨w3.heap.size, 0, none⟩ 1 1 [.slice a9 l.length c9] rfl rfl ?_ ?_ (by unfold maxLen; omega) (by omega) (by have := hbA.size; omega) ?_
        · intro j u hj
          match j, hj with
          | 0, hj => simp at hj; subst hj; simp [Addr.add, go_sem]
          | j + 1, hj => simp at hj
        · intro u hu
          rw [List.mem_singleton] at hu
          rw [hu]
          rfl
        intro v5 w5 o5 g5 l5
        have HC5 := HCk.out.push hbA (by rw [HLL.out]; exact hoA) hbz o5 g5 l5
        have hc5 : w5.cell? ⟨B, 3, none⟩ = some (.slice av k cv) := cell_grown g5 hS4 (fun e => HCk.out.n3.1 e.symm)
        have hf5 : ∀ o, w5.frozen? ⟨B, o, none⟩ = false := fun o => ((Mod.of_grown g5).frozen (a := ⟨B, o, none⟩) (Nat.lt_of_lt_of_le hzB hbA.size) (fun e => HCk.out.n3.1 e)).trans (by rw [(bcell hbA).2 _ _ hzB]; exact hBf o)
        have HC6 : Hid (CpSt W0 (w5.setCell ⟨B, 3, none⟩ v5) W0.heap.size B d (k + 1) (.slice a6 d.log.synced.length c6) (.slice a7 d.log.loose.length c7) (.slice a8 d.mem.length c8) v5 (fun b => F1 b ∨ F2 b) F3 (cs ++ [.slice a9 l.length c9]) (upd us k (.slice a9 l.length c9)) (upd fs k F4)) := HC5
        obtain ⟨a10, c10, rfl⟩ := owns_form o5
        have hS5 : (fun w' : World => w'.cell? ⟨B, 3, none⟩ = some (.slice av k cv)) w5 := hc5
        refine hK _ _ (fun _ => hS5) ?_
        clear hK K HC5
        try simp only [Act.put, List.getElem_toArray, List.getElem_cons_zero, List.getElem_cons_succ, List.setIfInBounds_toArray, List.set_cons_zero, List.set_cons_succ]
        refine upto_take (i := 6) (v := ?_) rfl (by kernel_rfl) (by kernel_rfl) (by kernel_rfl) (by kernel_rfl) (fun _ _ _ h => h) (by rfl) hS5 ?_ ?_
        rotate_left
        · intro wS hSw
          try dsimp only at hSw
          first | (go_simp; done) | (go_simp; with_reducible rfl)
        try simp only [Act.put, List.getElem_toArray, List.getElem_cons_zero, List.getElem_cons_succ, List.setIfInBounds_toArray, List.set_cons_zero, List.set_cons_succ]
        refine upto_step (i := 7) (by kernel_rfl) rfl ?_
        intro K hK
        go_simp
        refine hK _ _ (fun h => absurd rfl h) ?_
        clear hK K
        refine upto_done (by kernel_rfl) ?_
        refine NoPanic.normal ?_
        clear hS hS3 hS4 hS5 hbA hoA ho3 hb3 o5 g5 l5 hCR HCk g0
        go_wp2
        exact ⟨⟨k + 1, _, _, _, _, by omega, by go_num, HC6⟩, by simp [intOf]; omega⟩
      · obtain rfl : k = d.tables.length := by omega
        have hi5 : ¬ ((d.tables.length : Int) < d.tables.length) := by omega
        obtain ⟨F, hE⟩ := HCk.out.engn
        obtain ⟨p0, p1, p2, p3, p4⟩ : wr.cell? ⟨B, 0, none⟩ = some (.slice a6 d.log.synced.length c6) ∧ wr.cell? ⟨B, 1, none⟩ = some (.slice a7 d.log.loose.length c7) ∧ wr.cell? ⟨B, 2, none⟩ = some (.slice a8 d.mem.length c8) ∧ wr.cell? ⟨B, 3, none⟩ = some (.slice av d.tables.length cv) ∧ wr.cell? ⟨B, 4, none⟩ = some (.int .i64 d.next) := ⟨HCk.out.c0, HCk.out.c1, HCk.out.c2, HCk.out.c3, HCk.out.c4⟩
        have hbw := HCk.out.blw
        have m0 := cell_keep hbw q0
        have m1 := cell_keep hbw q1
        have m2 := cell_keep hbw q2
        have m3 := cell_keep hbw q3
        have m4 := cell_keep hbw q4
        have hqz : w.heap.size + 1 < W0.heap.size := by have := HS0.out; omega
        have mf := (boxKeep ⟨qf, hqz⟩ hbw).1
        have hBf : Below w.heap.size w wr := bstep hb0 hbw
        have HEN : Hid (engnR.O wr W0.heap.size F (.agg #[.slice a6 d.log.synced.length c6, .slice a7 d.log.loose.length c7, .slice a8 d.mem.length c8, .slice av d.tables.length cv, .int .i64 d.next]) d) := hE
        have hz8 := World.block_lt_of_cell? _ _ p0
        have hz9 := World.block_lt_of_cell? _ _ m0
        dsimp only at hz8 hz9
        have hneB : ¬ w.heap.size + 1 = B := by have := HCk.out.lo; omega
        clear HCk hE hbw q0 q1 q2 q3 q4 qf hT
        generalize d.log.synced.length = ls at *
        generalize d.log.loose.length = ll at *
        generalize d.mem.length = lm at *
        generalize d.tables.length = lt at *
        go_wp2
        refine bodyPost_ret (v := .agg #[.slice a6 ls c6, .slice a7 ll c7, .slice a8 lm c8, .slice av lt cv, .int .i64 d.next]) (by simp [results, Tryz.results79, go_sem, m0, m1, m2, m3, m4, mf]) rfl ?_
        have hfin := engnR.base (engnR.set (engnR.set (engnR.set (engnR.set (engnR.set HEN.out (p := ⟨w.heap.size + 1, 0, none⟩) (.slice a6 ls c6) hqz) (p := ⟨w.heap.size + 1, 1, none⟩) (.slice a7 ll c7) hqz) (p := ⟨w.heap.size + 1, 2, none⟩) (.slice a8 lm c8) hqz) (p := ⟨w.heap.size + 1, 3, none⟩) (.slice av lt cv) hqz) (p := ⟨w.heap.size + 1, 4, none⟩) (.int .i64 d.next) hqz) hb0.size
        first | exact ⟨_, F, rfl, hfin, by (repeat (first | refine bset ?_ (by simp; omega) _ | refine bset ?_ (by simp) _ | refine balloc ?_ _ | assumption))⟩ | exact ⟨_, rfl, ⟨F, hfin⟩, by (repeat (first | refine bset ?_ (by simp; omega) _ | refine bset ?_ (by simp) _ | refine balloc ?_ _ | assumption))⟩
end Go.Proofs.YtdfapehonegeeaaGreat

/-
  An engine copied: the specification's side.
-/
namespace Go.Proofs.YtdfapehonegeeaaGreat
open Go.RowKit
set_option linter.unusedSectionVars false
variable [DecidableEq Wri] [Inhabited Wri] [DecidableEq BytesR] [Inhabited BytesR] [DecidableEq Rw] [Inhabited Rw] [DecidableEq TabR] [Inhabited TabR] [DecidableEq Logg] [Inhabited Logg] [DecidableEq Engn] [Inhabited Engn] [DecidableEq LoggR] [Inhabited LoggR] [DecidableEq RecsR] [Inhabited RecsR] [DecidableEq Leg] [Inhabited Leg]
set_option linter.unusedVariables false
set_option linter.unusedSimpArgs false
attribute [local go_sem ↓] Go.wp_at_zero Go.wp_at_succ

theorem step_litR (Y : World) {ops : Array Oper} {o : Oper} {a : Act} {K : Act → World → Prop} {Q : Exit → Act → World → Prop} {E : Prop} (hgd : o.guard = none) (s x : Operand)
    (ho : o.op = .call { callee := .builtin .append, args := #[s, x], argTypes := #[32, 32] })
    (g : Nat) (hs : a.eval s = .slice (some ⟨g, 0, none⟩) 0 0) (u : Value) (ys : List Rw) (hx : a.eval x = u) (hsrc : AppAny Y u ys.length (rwsC ys)) (hlen : ys.length ≤ 1048576)
    (h : ∀ v' w', Below Y.heap.size Y w' → ((ys = [] ∧ v' = .slice (some ⟨g, 0, none⟩) 0 0) ∨ (ys ≠ [] ∧ w'.ownsRow Y.heap.size 76 4 v' ys.length (rwsC ys))) → K (a.put o.dst v') w') :
    if Region.wanted o (yielded ops a.tmps) = true then Oper.wp Tryz.prog o a Y K Q else E := by
  obtain ⟨i0, hi, hz0, hz1, hz2⟩ := info_parts infoRw
  by_cases hy : ys = []
  · subst hy
    have hu : ∃ ao c, u = .slice ao 0 c := by
      rcases hsrc with ⟨c, rfl, _, _⟩ | ⟨ad, c, rfl, _⟩
      · exact ⟨_, _, rfl⟩
      · exact ⟨_, _, rfl⟩
    obtain ⟨ao, c, rfl⟩ := hu
    have hw : Region.wanted o (yielded ops a.tmps) = true := by simp [Region.wanted, hgd]
    rw [if_pos hw]
    have hr := run_append_zero (P := Tryz.prog) Y 32 o.type 76 i0 Tryz.underlying32 hi g c ao
    unfold Oper.wp execOp
    simp only [ho, resolve, invoke, builtin, Sem.run_bind, Sem.run_pure, Result.andThen_ok, List.map_toArray, List.map_cons, List.map_nil, hs, hx, hr]
    exact h _ _ (Below.refl _ _) (.inl ⟨rfl, rfl⟩)
  · rcases hsrc with ⟨c, rfl, hm, _⟩ | ⟨ad, c, rfl, hc⟩
    · exact absurd (List.eq_nil_of_length_eq_zero hm) hy
    · have hpos : 0 < ys.length := List.length_pos_iff.2 hy
      refine step_append_grows hgd s x 32 ho 76 i0 _ 4 48 Tryz.underlying32 hi hz0 hz1 hz2 rfl (by decide) (some ⟨g, 0, none⟩) 0 0 [] hs (fun e => by cases e) rfl (fun _ _ j v hj => by cases hj) ad ys.length c (rwsC ys) hx (by rw [length_rwsC]) hc (rwsC_oneC ys) (by omega) (by unfold maxLen; omega) (by omega) ?_
      intro v' w' hown hg
      refine h v' w' ((Below.refl _ _).grown hg (Nat.le_refl _) (fun k e => by cases e)) (.inr ⟨hy, ?_⟩)
      simpa using hown
theorem litR_both {w0 w : World} {xs : List Rw} {v v0 : Value} {l1 h1 l2 h2 : Nat} (hf : Fit xs) (b1 : w0.heap.size ≤ l1) (b2 : w0.heap.size ≤ l2)
    (g1 : v0 = .slice (some ⟨l1, 0, none⟩) 0 0 ∧ l1 < h1 ∧ w.ownsRow l1 76 4 (.slice (some ⟨l1, 0, none⟩) 0 0) 0 (rwsC []))
    (g2 : (xs = [] ∧ v = v0) ∨ (w.ownsRow l2 76 4 v xs.length (rwsC xs) ∧ ∀ b, v.ownBlock = some b → b < h2)) :
    ∃ F, rowsR.O w w0.heap.size F v xs ∧ ∀ b, F b → (l1 ≤ b ∧ b < h1) ∨ (l2 ≤ b ∧ b < h2) := by
  rcases g2 with ⟨rfl, rfl⟩ | ⟨g2, g3⟩
  · obtain ⟨rfl, g4, g5⟩ := g1
    refine ⟨_, rowsR.base (base := l1) ⟨⟨g5, rfl⟩, hf⟩ b1, fun b hb => .inl ?_⟩
    simp [Value.ownBlock] at hb
    omega
  · refine ⟨_, rowsR.base (base := l2) ⟨⟨g2, rfl⟩, hf⟩ b2, fun b hb => .inr ⟨?_, g3 b hb⟩⟩
    exact (g2.lt b hb).1
def cpsG (d : Engn) : Nat → (Nat → Value) → Nat → Nat → World → Prop
  | 2, y, lo, hi, w => (∃ a c b k, y 7 = .agg #[.slice a d.log.synced.length c, .slice b d.log.loose.length k]) ∧ ∃ F, loggR.O w lo F (y 7) d.log ∧ ∀ b, F b → b < hi
  | 3, y, lo, hi, w => y 8 = .slice (some ⟨lo, 0, none⟩) 0 0 ∧ lo < hi ∧ w.ownsRow lo 76 4 (.slice (some ⟨lo, 0, none⟩) 0 0) 0 (rwsC [])
  | 6, y, lo, hi, w => (∃ a c, y 11 = .slice a d.mem.length c) ∧ ((d.mem = [] ∧ y 11 = y 8) ∨ (d.mem ≠ [] ∧ w.ownsRow lo 76 4 (y 11) d.mem.length (rwsC d.mem) ∧ ∀ b, (y 11).ownBlock = some b → b < hi))
  | 9, y, _, _, _ => ∃ a c b k p q, y 7 = .agg #[.slice a d.log.synced.length c, .slice b d.log.loose.length k] ∧ y 11 = .slice p d.mem.length q ∧ y 14 = .agg #[.slice a d.log.synced.length c, .slice b d.log.loose.length k, .slice p d.mem.length q, .slice none 0 0, .int .i64 d.next]
  | 10, y, lo, hi, w => y 3 = .pointer (some ⟨lo, 0, none⟩) ∧ lo < hi ∧ (w.cell? ⟨lo, 0, none⟩ = some (.slice none 0 0) ∧ w.cell? ⟨lo, 1, none⟩ = some (.slice none 0 0) ∧ w.cell? ⟨lo, 2, none⟩ = some (.slice none 0 0) ∧ w.cell? ⟨lo, 3, none⟩ = some (.slice none 0 0) ∧ w.cell? ⟨lo, 4, none⟩ = some (.int .i64 0)) ∧ ∀ o, w.frozen? ⟨lo, o, none⟩ = false
  | _, _, _, _, _ => True
set_option maxRecDepth 20000 in
set_option maxHeartbeats 8000000 in
theorem l6Copy_s (x : Value) (d : Engn) (w : World) (hx : engnR.V w x d) (hn : wtEngn d ≤ 1048576) :
    Calls Tryz.prog 63 #[x] w fun e w' => ∃ v F, e = .returned v ∧ engnR.O w' w.heap.size F v d ∧ (∃ p1 p2 g p4 k1 k2 k3 k4, v = .agg #[.slice p1 d.log.synced.length k1, .slice p2 d.log.loose.length k2, .slice (some ⟨g, 0, none⟩) d.mem.length k3, .slice p4 d.tables.length k4, .int .i64 d.next]) ∧ Below w.heap.size w w' := by
  have hX := hx
  obtain ⟨a1, a2, a3, a4, c1, c2, c3, c4, rfl⟩ := engn_form hx
  obtain ⟨u1, u2, u3, u4, e, h1, h2, h3⟩ := hX
  simp only [Value.agg.injEq, Array.mk.injEq, List.cons.injEq, and_true] at e
  obtain ⟨rfl, rfl, rfl, rfl⟩ := e
  obtain ⟨z1, z2, e, V1, V2⟩ := h1
  simp only [Value.agg.injEq, Array.mk.injEq, List.cons.injEq, and_true] at e
  obtain ⟨rfl, rfl⟩ := e
  obtain ⟨i0, hif, hz0, hz1, hz2⟩ := info_parts infoRws
  have hwl : wtLogg d.log ≤ 1048576 := by unfold wtEngn at hn; omega
  have hlm : d.mem.length ≤ 1048576 := by unfold wtEngn at hn; have := wt_len d.mem; omega
  have hlt : d.tables.length ≤ 1048576 := by unfold wtEngn at hn; have := wt_lens d.tables; omega
  have HW : Hid (∀ k, k < d.tables.length → (d.tables.getD k default).length ≤ 1048576) := fun k hk => by
    have h1 : wtRowss d.tables ≤ 1048576 := by unfold wtEngn at hn; omega
    have h2 := (wt_at (f := wtRows) h1 hk).1
    have := wt_len (d.tables.getD k default)
    omega
  have HL1 : Hid (bytesR.V w (.slice a1 d.log.synced.length c1) d.log.synced) := V1
  have HL2 : Hid (bytesR.V w (.slice a2 d.log.loose.length c2) d.log.loose) := V2
  have HLG : Hid (loggR.V w (.agg #[.slice a1 d.log.synced.length c1, .slice a2 d.log.loose.length c2]) d.log) := ⟨_, _, rfl, V1, V2⟩
  have HM : Hid (rowsR.V w (.slice a3 d.mem.length c3) d.mem) := h2
  have hls : d.log.synced.length + d.log.loose.length ≤ 1048576 := by unfold wtLogg wtBytes at hwl; omega
  obtain ⟨a4', c4', e, hc4, hm4, hT⟩ := h3
  simp only [Value.slice.injEq, true_and] at e
  obtain ⟨rfl, rfl⟩ := e
  unfold maxLen at hm4
  clear V1 V2 h2 hx hn
  go_enter Tryz.func63, Tryz.ntmps63
  go_wp2
  refine wp_region_noPanic ?_
  refine region_upto (fun w' => Below w.heap.size w w' ∧ w'.cell? ⟨w.heap.size, 0, none⟩ = some (.slice a1 d.log.synced.length c1) ∧ w'.cell? ⟨w.heap.size, 1, none⟩ = some (.slice a2 d.log.loose.length c2) ∧ w'.cell? ⟨w.heap.size, 2, none⟩ = some (.slice a3 d.mem.length c3) ∧ w'.cell? ⟨w.heap.size, 3, none⟩ = some (.slice a4 d.tables.length c4) ∧ w'.cell? ⟨w.heap.size, 4, none⟩ = some (.int .i64 d.next)) 11 (by kernel_rfl) ⟨by (repeat (first | exact Below.refl _ _ | assumption | refine Below.drew ?_ | refine balloc ?_ _ | refine bset ?_ (by simp; omega) _ | refine bset ?_ (by simp) _ | refine bstep ?_ (by assumption))), by simp [go_sem], by simp [go_sem], by simp [go_sem], by simp [go_sem], by simp [go_sem]⟩ (fun hS => ?_)
  refine upto_take (i := 0) (v := ?_) rfl (by kernel_rfl) (by kernel_rfl) (by kernel_rfl) (by kernel_rfl) (fun _ _ _ h => h) (by rfl) hS ?_ ?_
  rotate_left
  · intro wS hSw
    try dsimp only at hSw
    first | (go_simp; done) | (go_simp; with_reducible rfl)
  try simp only [Act.put, List.getElem_toArray, List.getElem_cons_zero, List.getElem_cons_succ, List.setIfInBounds_toArray, List.set_cons_zero, List.set_cons_succ]
  refine upto_take (i := 1) (v := ?_) rfl (by kernel_rfl) (by kernel_rfl) (by kernel_rfl) (by kernel_rfl) (fun _ _ _ h => h) (by rfl) hS ?_ ?_
  rotate_left
  · intro wS hSw
    try dsimp only at hSw
    first | (go_simp; done) | (go_simp; with_reducible rfl)
  try simp only [Act.put, List.getElem_toArray, List.getElem_cons_zero, List.getElem_cons_succ, List.setIfInBounds_toArray, List.set_cons_zero, List.set_cons_succ]
  refine upto_take (i := 4) (v := ?_) rfl (by kernel_rfl) (by kernel_rfl) (by kernel_rfl) (by kernel_rfl) (fun _ _ _ h => h) (by rfl) hS ?_ ?_
  rotate_left
  · intro wS hSw
    try dsimp only at hSw
    first | (go_simp; done) | (go_simp; with_reducible rfl)
  try simp only [Act.put, List.getElem_toArray, List.getElem_cons_zero, List.getElem_cons_succ, List.setIfInBounds_toArray, List.set_cons_zero, List.set_cons_succ]
  refine upto_take (i := 5) (v := ?_) rfl (by kernel_rfl) (by kernel_rfl) (by kernel_rfl) (by kernel_rfl) (fun _ _ _ h => h) (by rfl) hS ?_ ?_
  rotate_left
  · intro wS hSw
    try dsimp only at hSw
    first | (go_simp; done) | (go_simp; with_reducible rfl)
  try simp only [Act.put, List.getElem_toArray, List.getElem_cons_zero, List.getElem_cons_succ, List.setIfInBounds_toArray, List.set_cons_zero, List.set_cons_succ]
  refine upto_take (i := 7) (v := ?_) rfl (by kernel_rfl) (by kernel_rfl) (by kernel_rfl) (by kernel_rfl) (fun _ _ _ h => h) (by rfl) hS ?_ ?_
  rotate_left
  · intro wS hSw
    try dsimp only at hSw
    first | (go_simp; done) | (go_simp; with_reducible rfl)
  try simp only [Act.put, List.getElem_toArray, List.getElem_cons_zero, List.getElem_cons_succ, List.setIfInBounds_toArray, List.set_cons_zero, List.set_cons_succ]
  refine upto_take (i := 8) (v := ?_) rfl (by kernel_rfl) (by kernel_rfl) (by kernel_rfl) (by kernel_rfl) (fun _ _ _ h => h) (by rfl) hS ?_ ?_
  rotate_left
  · intro wS hSw
    try dsimp only at hSw
    first | (go_simp; done) | (go_simp; with_reducible rfl)
  try simp only [Act.put, List.getElem_toArray, List.getElem_cons_zero, List.getElem_cons_succ, List.setIfInBounds_toArray, List.set_cons_zero, List.set_cons_succ]
  have hs0 : ((w.alloc (.cells #[.slice a1 d.log.synced.length c1, .slice a2 d.log.loose.length c2, .slice a3 d.mem.length c3, .slice a4 d.tables.length c4, .int .i64 d.next] 35)).alloc (.cells #[.slice none 0 0, .slice none 0 0, .slice none 0 0, .slice none 0 0, .int .i64 0] 35)).drew.heap.size = w.heap.size + 2 := by simp
  have q0 : ((w.alloc (.cells #[.slice a1 d.log.synced.length c1, .slice a2 d.log.loose.length c2, .slice a3 d.mem.length c3, .slice a4 d.tables.length c4, .int .i64 d.next] 35)).alloc (.cells #[.slice none 0 0, .slice none 0 0, .slice none 0 0, .slice none 0 0, .int .i64 0] 35)).drew.cell? ⟨w.heap.size + 1, 0, none⟩ = some (.slice none 0 0) := by simp [go_sem]
  have q1 : ((w.alloc (.cells #[.slice a1 d.log.synced.length c1, .slice a2 d.log.loose.length c2, .slice a3 d.mem.length c3, .slice a4 d.tables.length c4, .int .i64 d.next] 35)).alloc (.cells #[.slice none 0 0, .slice none 0 0, .slice none 0 0, .slice none 0 0, .int .i64 0] 35)).drew.cell? ⟨w.heap.size + 1, 1, none⟩ = some (.slice none 0 0) := by simp [go_sem]
  have q2 : ((w.alloc (.cells #[.slice a1 d.log.synced.length c1, .slice a2 d.log.loose.length c2, .slice a3 d.mem.length c3, .slice a4 d.tables.length c4, .int .i64 d.next] 35)).alloc (.cells #[.slice none 0 0, .slice none 0 0, .slice none 0 0, .slice none 0 0, .int .i64 0] 35)).drew.cell? ⟨w.heap.size + 1, 2, none⟩ = some (.slice none 0 0) := by simp [go_sem]
  have q3 : ((w.alloc (.cells #[.slice a1 d.log.synced.length c1, .slice a2 d.log.loose.length c2, .slice a3 d.mem.length c3, .slice a4 d.tables.length c4, .int .i64 d.next] 35)).alloc (.cells #[.slice none 0 0, .slice none 0 0, .slice none 0 0, .slice none 0 0, .int .i64 0] 35)).drew.cell? ⟨w.heap.size + 1, 3, none⟩ = some (.slice none 0 0) := by simp [go_sem]
  have q4 : ((w.alloc (.cells #[.slice a1 d.log.synced.length c1, .slice a2 d.log.loose.length c2, .slice a3 d.mem.length c3, .slice a4 d.tables.length c4, .int .i64 d.next] 35)).alloc (.cells #[.slice none 0 0, .slice none 0 0, .slice none 0 0, .slice none 0 0, .int .i64 0] 35)).drew.cell? ⟨w.heap.size + 1, 4, none⟩ = some (.int .i64 0) := by simp [go_sem]
  have qf : ∀ o, ((w.alloc (.cells #[.slice a1 d.log.synced.length c1, .slice a2 d.log.loose.length c2, .slice a3 d.mem.length c3, .slice a4 d.tables.length c4, .int .i64 d.next] 35)).alloc (.cells #[.slice none 0 0, .slice none 0 0, .slice none 0 0, .slice none 0 0, .int .i64 0] 35)).drew.frozen? ⟨w.heap.size + 1, o, none⟩ = false := fun o => by simp [go_sem]
  have hb0 : Below w.heap.size w ((w.alloc (.cells #[.slice a1 d.log.synced.length c1, .slice a2 d.log.loose.length c2, .slice a3 d.mem.length c3, .slice a4 d.tables.length c4, .int .i64 d.next] 35)).alloc (.cells #[.slice none 0 0, .slice none 0 0, .slice none 0 0, .slice none 0 0, .int .i64 0] 35)).drew := hS.1
  generalize ((w.alloc (.cells #[.slice a1 d.log.synced.length c1, .slice a2 d.log.loose.length c2, .slice a3 d.mem.length c3, .slice a4 d.tables.length c4, .int .i64 d.next] 35)).alloc (.cells #[.slice none 0 0, .slice none 0 0, .slice none 0 0, .slice none 0 0, .int .i64 0] 35)).drew = W0 at *
  have HS0 : Hid (W0.heap.size = w.heap.size + 2) := hs0
  clear hs0
  refine upto_stable' [(2, 7), (3, 8), (6, 11), (9, 14), (10, 3)] (cpsG d) (by kernel_rfl) hS (fun W W' h hb => ⟨bstep h.1 hb, cell_keep hb h.2.1, cell_keep hb h.2.2.1, cell_keep hb h.2.2.2.1, cell_keep hb h.2.2.2.2.1, cell_keep hb h.2.2.2.2.2⟩) ?_ ?_ ?_
  · intro p hp
    simp only [List.mem_cons, List.not_mem_nil, or_false] at hp
    rcases hp with rfl | rfl | rfl | rfl | rfl
    · intro y y' lo hi W W' h hi' hb e _
      simp only [cpsG] at h ⊢
      rw [e]
      obtain ⟨h1, F, h2, h3⟩ := h
      exact ⟨h1, F, loggR.keep h2 hb, h3⟩
    · intro y y' lo hi W W' h hi' hb e _
      simp only [cpsG] at h ⊢
      rw [e]
      exact ⟨h.1, h.2.1, owns_below h.2.2 hb⟩
    · intro y y' lo hi W W' h hi' hb e he
      have e0 := he (3, 8) (by simp) (by kernel_rfl)
      simp only [cpsG] at h ⊢
      rw [e, e0]
      exact ⟨h.1, h.2.imp id (fun h => ⟨h.1, owns_below h.2.1 hb, h.2.2⟩)⟩
    · intro y y' lo hi W W' h hi' hb e he
      have e0 := he (2, 7) (by simp) (by kernel_rfl)
      have e1 := he (6, 11) (by simp) (by kernel_rfl)
      simp only [cpsG] at h ⊢
      rw [e, e0, e1]
      exact h
    · intro y y' lo hi W W' h hi' hb e _
      simp only [cpsG] at h ⊢
      rw [e]
      obtain ⟨h1, h2, ⟨g0, g1, g2, g3, g4⟩, h4⟩ := h
      exact ⟨h1, h2, ⟨cell_keep hb g0, cell_keep hb g1, cell_keep hb g2, cell_keep hb g3, cell_keep hb g4⟩, fun o => by rw [(bcell hb).2 _ _ (Nat.lt_of_lt_of_le h2 hi'.2.2)]; exact h4 o⟩
  · intro p hp
    simp only [List.mem_cons, List.not_mem_nil, or_false] at hp
    rcases hp with rfl | rfl | rfl | rfl | rfl
    all_goals
      refine ⟨_, rfl, rfl, ?_⟩
      intro y W lo hi hSW hBW hd hap K hK
      clear hap
    · clear hd
      refine ⟨?_⟩
      simp only [over, Act.put, List.getElem_toArray, List.getElem_cons_zero, List.getElem_cons_succ, List.map_cons, List.map_nil, List.foldl_cons, List.foldl_nil, List.setIfInBounds_toArray, List.set_cons_zero, List.set_cons_succ] at hK ⊢
      go_simp
      refine (l4Copy_any _ d.log _ (loggR.below HLG.out hSW.1) hwl).mono ?_
      rintro e w' ⟨v, F, rfl, o3, hb3⟩
      refine hK _ _ hb3 ?_
      simp only [cpsG, updV]
      obtain ⟨av, bv, cv, kv, hv⟩ := logg_form (loggR.ofO o3)
      exact ⟨⟨av, cv, bv, kv, by simpa using hv⟩, F, by simpa using o3, fun b hb => (loggR.rng o3 b hb).2⟩
    · clear hd
      refine ⟨?_⟩
      simp only [over, Act.put, List.getElem_toArray, List.getElem_cons_zero, List.getElem_cons_succ, List.map_cons, List.map_nil, List.foldl_cons, List.foldl_nil, List.setIfInBounds_toArray, List.set_cons_zero, List.set_cons_succ] at hK ⊢
      go_simp
      refine hK _ _ (by (repeat (first | exact Below.refl _ _ | assumption | refine Below.drew ?_ | refine balloc ?_ _ | refine bset ?_ (by simp; omega) _ | refine bset ?_ (by simp) _ | refine bstep ?_ (by assumption)))) ?_
      simp only [cpsG, updV]
      exact ⟨rfl, by simp, World.ownsRow_lit (base := W.heap.size) (e := 76) (size := 4) W #[] 0 (Nat.le_refl _) (by unfold maxLen; omega) rfl⟩
    · have g0 := (hd (3, 8) (by simp) (by kernel_rfl)).2
      clear hd
      simp only [cpsG] at g0
      refine ⟨?_⟩
      refine step_litR W rfl (.tmp 8) (.tmp 10) rfl (lo 3) ?_ (.slice a3 d.mem.length c3) d.mem ?_ (rowsAnyV (RowsV_below HM.out.1 hSW.1)) hlm ?_
      · exact g0.1
      · rfl
      intro v' w' hb ho
      refine hK _ _ hb ?_
      simp only [cpsG, updV]
      rcases ho with ⟨hl, rfl⟩ | ⟨hne, ho⟩
      · exact ⟨⟨some ⟨lo 3, 0, none⟩, 0, by simp [hl]⟩, .inl ⟨hl, by simp [g0.1]⟩⟩
      · obtain ⟨av, cv, hv⟩ := owns_form ho
        refine ⟨⟨av, cv, by simpa using hv⟩, .inr ⟨hne, by simpa using ho, fun b hb' => ?_⟩⟩
        exact (ho.lt b (by simpa using hb')).2
    · have g3 := (hd (2, 7) (by simp) (by kernel_rfl)).2
      have g7 := (hd (6, 11) (by simp) (by kernel_rfl)).2
      clear hd
      simp only [cpsG] at g3 g7
      obtain ⟨⟨a6, c6, a7, c7, e6⟩, -⟩ := g3
      obtain ⟨⟨a8, c8, e7⟩, -⟩ := g7
      refine ⟨?_⟩
      simp only [over, Act.put, List.getElem_toArray, List.getElem_cons_zero, List.getElem_cons_succ, List.map_cons, List.map_nil, List.foldl_cons, List.foldl_nil, List.setIfInBounds_toArray, List.set_cons_zero, List.set_cons_succ] at hK ⊢
      simp only [e6, e7] at hK ⊢
      go_simp
      refine hK _ _ (Below.refl _ _) ?_
      simp only [cpsG, updV]
      exact ⟨a6, c6, a7, c7, a8, c8, by simp [e6], by simp [e7], by simp⟩
    · clear hd
      refine ⟨?_⟩
      simp only [over, Act.put, List.getElem_toArray, List.getElem_cons_zero, List.getElem_cons_succ, List.map_cons, List.map_nil, List.foldl_cons, List.foldl_nil, List.setIfInBounds_toArray, List.set_cons_zero, List.set_cons_succ] at hK ⊢
      go_simp
      refine hK _ _ (by (repeat (first | exact Below.refl _ _ | assumption | refine Below.drew ?_ | refine balloc ?_ _ | refine bset ?_ (by simp; omega) _ | refine bset ?_ (by simp) _ | refine bstep ?_ (by assumption)))) ?_
      simp only [cpsG, updV]
      exact ⟨rfl, by simp, ⟨by simp [go_sem], by simp [go_sem], by simp [go_sem], by simp [go_sem], by simp [go_sem]⟩, fun o => by simp [go_sem]⟩
  · refine ⟨_, rfl, ?_⟩
    intro y W lo hi hSW hBW hd hap K hK
    have g2 := hd (2, 7) (by simp)
    have g3 := hd (3, 8) (by simp)
    have g6 := hd (6, 11) (by simp)
    have g9 := (hd (9, 14) (by simp)).2
    have g10 := hd (10, 3) (by simp)
    clear hd
    have p1 := hap (2, 7) (by simp) (3, 8) (by simp) (by simp)
    have p2 := hap (2, 7) (by simp) (6, 11) (by simp) (by simp)
    have p3 := hap (2, 7) (by simp) (10, 3) (by simp) (by simp)
    have p4 := hap (3, 8) (by simp) (10, 3) (by simp) (by simp)
    have p5 := hap (6, 11) (by simp) (10, 3) (by simp) (by simp)
    clear hap
    simp only [cpsG, Apart, InB] at g2 g3 g6 g9 g10 p1 p2 p3 p4 p5
    obtain ⟨b2, -, F1, o1, f1⟩ := g2
    obtain ⟨b3, g3⟩ := g3
    obtain ⟨b6, -, g6⟩ := g6
    obtain ⟨b10, e17, hlh, ⟨k0, k1, k2, k3, k4⟩, kf⟩ := g10
    obtain ⟨a6, c6, a7, c7, a8, c8, e7, e11, e14⟩ := g9
    have hsm : ∃ g, a8 = some ⟨g, 0, none⟩ := by
      rcases g6 with ⟨_, h⟩ | ⟨hne, h, _⟩
      · rw [e11, g3.1] at h
        simp only [Value.slice.injEq] at h
        exact ⟨_, h.1⟩
      · rw [e11] at h
        rcases h.2 with ⟨_, h0⟩ | ⟨g, cap, cur, hv, _⟩
        · exact absurd (List.eq_nil_of_length_eq_zero h0) hne
        · simp only [Value.slice.injEq] at hv
          exact ⟨g, hv.1⟩
    have HSM : Hid (∃ g, a8 = some ⟨g, 0, none⟩) := hsm
    clear hsm
    obtain ⟨F3, o3, f3⟩ := litR_both (w0 := W0) HM.out.2 b3.1 b6.1 g3 (g6.imp id (fun h => h.2))
    have hl1 : ∀ b, F1 b → lo 2 ≤ b := fun b hb => (loggR.rng o1 b hb).1
    have hd13 : ∀ b, F1 b → ¬ F3 b := fun b q1 q2 => by have := f1 b q1; have := f3 b q2; have := hl1 b q1; omega
    have hn1 : ¬ F1 (lo 10) := fun q => by have := f1 _ q; have := hl1 _ q; omega
    have hn3 : ¬ F3 (lo 10) := fun q => by have := f3 _ q; omega
    have hBlo : W0.heap.size ≤ lo 10 := b10.1
    replace o1 := loggR.base (base' := W0.heap.size) o1 (by omega)
    rw [e7] at o1
    rw [e11] at o3
    generalize lo 10 = B at *
    refine ⟨?_⟩
    simp only [over, Act.put, List.getElem_toArray, List.getElem_cons_zero, List.getElem_cons_succ, List.map_cons, List.map_nil, List.foldl_cons, List.foldl_nil, List.setIfInBounds_toArray, List.set_cons_zero, List.set_cons_succ]
    simp only [e14, e17]
    clear e7 e11 e14 e17 b2 b3 b6 b10 g3 g6 p1 p2 p3 p4 p5 f1 f3 hl1 hSW
    go_simp
    refine hK _ _ ?_
    clear hK K hlh
    refine NoPanic.normal ?_
    have hsz0 := HS0.out
    have hW : Below W0.heap.size W0 W := hBW
    have hm5 : Mod (fun b => b = B) W (((((W.setCell ⟨B, 0, none⟩ (.slice a6 d.log.synced.length c6)).setCell ⟨B, 1, none⟩ (.slice a7 d.log.loose.length c7)).setCell ⟨B, 2, none⟩ (.slice a8 d.mem.length c8)).setCell ⟨B, 3, none⟩ (.slice none 0 0)).setCell ⟨B, 4, none⟩ (.int .i64 d.next)) := ((((Mod.of_set W ⟨B, 0, none⟩ _).trans (Mod.of_set _ ⟨B, 1, none⟩ _)).trans (Mod.of_set _ ⟨B, 2, none⟩ _)).trans (Mod.of_set _ ⟨B, 3, none⟩ _)).trans (Mod.of_set _ ⟨B, 4, none⟩ _)
    have CS : CpSt W0 (((((W.setCell ⟨B, 0, none⟩ (.slice a6 d.log.synced.length c6)).setCell ⟨B, 1, none⟩ (.slice a7 d.log.loose.length c7)).setCell ⟨B, 2, none⟩ (.slice a8 d.mem.length c8)).setCell ⟨B, 3, none⟩ (.slice none 0 0)).setCell ⟨B, 4, none⟩ (.int .i64 d.next)) W0.heap.size B d 0 (.slice a6 d.log.synced.length c6) (.slice a7 d.log.loose.length c7) (.slice a8 d.mem.length c8) (.slice none 0 0) F1 F3 [] (fun _ => .nilFunc) (fun _ _ => False) := by
      refine ⟨by simp [go_sem, k0, k1, k2, k3, k4, kf], by simp [go_sem, k0, k1, k2, k3, k4, kf], by simp [go_sem, k0, k1, k2, k3, k4, kf], by simp [go_sem, k0, k1, k2, k3, k4, kf], by simp [go_sem, k0, k1, k2, k3, k4, kf], fun o => by simp [go_sem, kf], hBlo, ?_, ?_, ?_, ?_, ?_, ?_, ?_, hn3, ?_, ?_⟩
      · exact loggR.mod (G := fun b => b = B) o1 hm5 (fun b hb e => hn1 (e ▸ hb))
      · exact rowsR.mod (G := fun b => b = B) o3 hm5 (fun b hb e => hn3 (e ▸ hb))
      · exact ⟨World.ownsRow_nil _ _ _ _, fun i hi => absurd hi (Nat.not_lt_zero _), fun i hi => absurd hi (Nat.not_lt_zero _), fun i hi => absurd hi (Nat.not_lt_zero _), fun i hi => absurd hi (Nat.not_lt_zero _), fun i j hi => absurd hi (Nat.not_lt_zero _)⟩
      · exact hd13
      · exact fun b _ => ⟨fun e => by simp [Value.ownBlock] at e, fun i hi => absurd hi (Nat.not_lt_zero _)⟩
      · exact fun b _ => ⟨fun e => by simp [Value.ownBlock] at e, fun i hi => absurd hi (Nat.not_lt_zero _)⟩
      · exact hn1
      · exact ⟨fun e => by simp [Value.ownBlock] at e, fun i hi => absurd hi (Nat.not_lt_zero _)⟩
      · exact hm5.below hW hW.size (fun b e => by rw [e]; exact hBlo)
    generalize ((((W.setCell ⟨B, 0, none⟩ (.slice a6 d.log.synced.length c6)).setCell ⟨B, 1, none⟩ (.slice a7 d.log.loose.length c7)).setCell ⟨B, 2, none⟩ (.slice a8 d.mem.length c8)).setCell ⟨B, 3, none⟩ (.slice none 0 0)).setCell ⟨B, 4, none⟩ (.int .i64 d.next) = W5 at *
    have HC : Hid (CpSt W0 W5 W0.heap.size B d 0 (.slice a6 d.log.synced.length c6) (.slice a7 d.log.loose.length c7) (.slice a8 d.mem.length c8) (.slice none 0 0) F1 F3 [] (fun _ => .nilFunc) (fun _ _ => False)) := CS
    clear CS hm5 k0 k1 k2 k3 k4 kf o1 o3 hd13 hn1 hn3 hW hBW HL1 HL2 HLG HM
    have x0 := hS.2.1
    have x1 := hS.2.2.1
    have x2 := hS.2.2.2.1
    have x3 := hS.2.2.2.2.1
    have x4 := hS.2.2.2.2.2
    clear hS
    go_wp2
    go_loopw [4] (fun i W => ∃ (k : Nat) (v : Value) (cs : List Value) (us : Nat → Value) (fs : Nat → Nat → Prop), k ≤ d.tables.length ∧ i = .int .i64 k ∧ Hid (CpSt W0 W W0.heap.size B d k (.slice a6 d.log.synced.length c6) (.slice a7 d.log.loose.length c7) (.slice a8 d.mem.length c8) v F1 F3 cs us fs)) (fun i _ => d.tables.length - (intOf i).toNat)
    case atStart => exact ⟨0, _, _, _, _, Nat.zero_le _, rfl, HC⟩
    case round =>
      obtain ⟨k, v, cs, us, fs, hk, rfl, HCk⟩ := hrel
      clear HC
      obtain ⟨av, cv, rfl⟩ := owns_form HCk.out.o3.row
      have y3 := cell_keep HCk.out.blw x3
      by_cases hkt : k < d.tables.length
      · obtain ⟨b, o, u, rfl, _, hc, hu⟩ := hT k hkt
        have hbw := HCk.out.blw
        have hBk : Below w.heap.size w wr := bstep hb0 hbw
        have g0 := cell_keep hBk (cells1 hc)
        have hgz : b < w.heap.size := World.block_lt_of_cell? _ _ (cells1 hc)
        have hlk := HW.out k hkt
        have HUV : Hid (rowsR.V wr u (d.tables.getD k default)) := rowsR.below hu hBk
        have hi5 : (k : Int) < d.tables.length := by omega
        have hi4 : (0 : Int) ≤ k := by omega
        have hB3 := HCk.out.c3
        have hBf := HCk.out.fz
        have hBlo2 := HCk.out.lo
        have hzB := World.block_lt_of_cell? _ _ hB3
        have hsz0 := HS0.out
        dsimp only at hzB
        clear hc hu hT HW
        obtain ⟨l, hl⟩ : ∃ l, d.tables.getD k default = l := ⟨_, rfl⟩
        have HLL : Hid (d.tables.getD k default = l) := hl
        rw [hl] at HUV hlk
        clear hl
        generalize hlt' : d.tables.length = lt at *
        have HLT : Hid (d.tables.length = lt) := hlt'
        have HSZ : Hid (W0.heap.size = w.heap.size + 2) := hsz0
        clear hlt' hsz0
        go_wp2
        refine wp_region_noPanic ?_
        refine region_upto (fun w' => w'.cell? ⟨B, 3, none⟩ = some (.slice av k cv) ∧ w'.cell? ⟨w.heap.size, 3, none⟩ = some (.slice (some ⟨b, o, none⟩) lt c4) ∧ w'.cell? ⟨b, o + k, none⟩ = some u) 12 (by kernel_rfl) ⟨cell_keep (by (repeat (first | exact Below.refl _ _ | assumption | refine Below.drew ?_ | refine balloc ?_ _ | refine bset ?_ (by simp; omega) _ | refine bset ?_ (by simp) _ | refine bstep ?_ (by assumption)))) hB3, cell_keep (by (repeat (first | exact Below.refl _ _ | assumption | refine Below.drew ?_ | refine balloc ?_ _ | refine bset ?_ (by simp; omega) _ | refine bset ?_ (by simp) _ | refine bstep ?_ (by assumption)))) y3, cell_keep (by (repeat (first | exact Below.refl _ _ | assumption | refine Below.drew ?_ | refine balloc ?_ _ | refine bset ?_ (by simp; omega) _ | refine bset ?_ (by simp) _ | refine bstep ?_ (by assumption)))) g0⟩ (fun hS => ?_)
        refine upto_take (i := 0) (v := ?_) rfl (by kernel_rfl) (by kernel_rfl) (by kernel_rfl) (by kernel_rfl) (fun _ _ _ h => h) (by rfl) hS ?_ ?_
        rotate_left
        · intro wS hSw
          try dsimp only at hSw
          first | (go_simp; done) | (go_simp; with_reducible rfl)
        try simp only [Act.put, List.getElem_toArray, List.getElem_cons_zero, List.getElem_cons_succ, List.setIfInBounds_toArray, List.set_cons_zero, List.set_cons_succ]
        refine upto_take (i := 1) (v := ?_) rfl (by kernel_rfl) (by kernel_rfl) (by kernel_rfl) (by kernel_rfl) (fun _ _ _ h => h) (by rfl) hS ?_ ?_
        rotate_left
        · intro wS hSw
          try dsimp only at hSw
          first | (go_simp; done) | (go_simp; with_reducible rfl)
        try simp only [Act.put, List.getElem_toArray, List.getElem_cons_zero, List.getElem_cons_succ, List.setIfInBounds_toArray, List.set_cons_zero, List.set_cons_succ]
        refine upto_take (i := 3) (v := ?_) rfl (by kernel_rfl) (by kernel_rfl) (by kernel_rfl) (by kernel_rfl) (fun _ _ _ h => h) (by rfl) hS ?_ ?_
        rotate_left
        · intro wS hSw
          try dsimp only at hSw
          first | (go_simp; done) | (go_simp; with_reducible rfl)
        try simp only [Act.put, List.getElem_toArray, List.getElem_cons_zero, List.getElem_cons_succ, List.setIfInBounds_toArray, List.set_cons_zero, List.set_cons_succ]
        refine upto_take (i := 4) (v := ?_) rfl (by kernel_rfl) (by kernel_rfl) (by kernel_rfl) (by kernel_rfl) (fun _ _ _ h => h) (by rfl) hS ?_ ?_
        rotate_left
        · intro wS hSw
          try dsimp only at hSw
          first | (go_simp; done) | (go_simp; with_reducible rfl)
        try simp only [Act.put, List.getElem_toArray, List.getElem_cons_zero, List.getElem_cons_succ, List.setIfInBounds_toArray, List.set_cons_zero, List.set_cons_succ]
        refine upto_take (i := 5) (v := ?_) rfl (by kernel_rfl) (by kernel_rfl) (by kernel_rfl) (by kernel_rfl) (fun _ _ _ h => h) (by rfl) hS ?_ ?_
        rotate_left
        · intro wS hSw
          try dsimp only at hSw
          first | (go_simp; done) | (go_simp; with_reducible rfl)
        try simp only [Act.put, List.getElem_toArray, List.getElem_cons_zero, List.getElem_cons_succ, List.setIfInBounds_toArray, List.set_cons_zero, List.set_cons_succ]
        refine upto_take (i := 6) (v := ?_) rfl (by kernel_rfl) (by kernel_rfl) (by kernel_rfl) (by kernel_rfl) (fun _ _ _ h => h) (by rfl) hS ?_ ?_
        rotate_left
        · intro wS hSw
          try dsimp only at hSw
          first | (go_simp; done) | (go_simp; with_reducible rfl)
        try simp only [Act.put, List.getElem_toArray, List.getElem_cons_zero, List.getElem_cons_succ, List.setIfInBounds_toArray, List.set_cons_zero, List.set_cons_succ]
        refine upto_take (i := 7) (v := ?_) rfl (by kernel_rfl) (by kernel_rfl) (by kernel_rfl) (by kernel_rfl) (fun _ _ _ h => h) (by rfl) hS ?_ ?_
        rotate_left
        · intro wS hSw
          try dsimp only at hSw
          first | (go_simp; done) | (go_simp; with_reducible rfl)
        try simp only [Act.put, List.getElem_toArray, List.getElem_cons_zero, List.getElem_cons_succ, List.setIfInBounds_toArray, List.set_cons_zero, List.set_cons_succ]
        have hbd : Below wr.heap.size wr wr.drew := Below.drew (Below.refl _ _)
        refine upto_step (i := 2) (by kernel_rfl) rfl ?_
        intro K hK
        go_simp
        have hS2 : (fun w' : World => w'.cell? ⟨B, 3, none⟩ = some (.slice av k cv) ∧ w'.cell? ⟨w.heap.size, 3, none⟩ = some (.slice (some ⟨b, o, none⟩) lt c4) ∧ w'.cell? ⟨b, o + k, none⟩ = some u) (wr.alloc (.cells #[] 76)).drew := ⟨cell_keep (by (repeat (first | exact Below.refl _ _ | assumption | refine Below.drew ?_ | refine balloc ?_ _ | refine bset ?_ (by simp; omega) _ | refine bset ?_ (by simp) _ | refine bstep ?_ (by assumption)))) hB3, cell_keep (by (repeat (first | exact Below.refl _ _ | assumption | refine Below.drew ?_ | refine balloc ?_ _ | refine bset ?_ (by simp; omega) _ | refine bset ?_ (by simp) _ | refine bstep ?_ (by assumption)))) y3, cell_keep (by (repeat (first | exact Below.refl _ _ | assumption | refine Below.drew ?_ | refine balloc ?_ _ | refine bset ?_ (by simp; omega) _ | refine bset ?_ (by simp) _ | refine bstep ?_ (by assumption)))) g0⟩
        refine hK _ _ (fun _ => hS2) ?_
        clear hK K
        try simp only [Act.put, List.getElem_toArray, List.getElem_cons_zero, List.getElem_cons_succ, List.setIfInBounds_toArray, List.set_cons_zero, List.set_cons_succ]
        have hb2 : Below wr.heap.size wr (wr.alloc (.cells #[] 76)).drew := by (repeat (first | exact Below.refl _ _ | assumption | refine Below.drew ?_ | refine balloc ?_ _ | refine bset ?_ (by simp; omega) _ | refine bset ?_ (by simp) _ | refine bstep ?_ (by assumption)))
        have hl2 : (wr.alloc (.cells #[] 76)).drew.ownsRow wr.heap.size 76 4 (.slice (some ⟨wr.heap.size, 0, none⟩) 0 0) 0 (rwsC []) := owns_below (World.ownsRow_lit (base := wr.heap.size) (e := 76) (size := 4) wr #[] 0 (Nat.le_refl _) (by unfold maxLen; omega) rfl) (Below.drew (Below.refl _ _))
        have hzz2 : (wr.alloc (.cells #[] 76)).drew.heap.size = wr.heap.size + 1 := by simp
        obtain ⟨W2, hW2⟩ : ∃ W2, W2 = (wr.alloc (.cells #[] 76)).drew := ⟨_, rfl⟩
        rw [← hW2] at hS2 hb2 hl2 hzz2 ⊢
        have HZ2 : Hid (W2.heap.size = wr.heap.size + 1) := hzz2
        clear hW2 hS hbd hzz2
        refine upto_step (i := 8) (by kernel_rfl) rfl ?_
        intro K hK
        refine step_litR W2 rfl (.tmp 24) (.tmp 29) rfl wr.heap.size (by first | rfl | simp) u l rfl (rowsAnyV (RowsV_below HUV.out.1 hb2)) hlk ?_
        intro v8 w8 hb8 ho8
        have hS8 : (fun w' : World => w'.cell? ⟨B, 3, none⟩ = some (.slice av k cv) ∧ w'.cell? ⟨w.heap.size, 3, none⟩ = some (.slice (some ⟨b, o, none⟩) lt c4) ∧ w'.cell? ⟨b, o + k, none⟩ = some u) w8 := ⟨cell_keep hb8 hS2.1, cell_keep hb8 hS2.2.1, cell_keep hb8 hS2.2.2⟩
        have hbr8 := bstep hb2 hb8
        obtain ⟨F4, o8⟩ : ∃ F, rowsR.O w8 wr.heap.size F v8 l := by
          obtain ⟨F, h1, _⟩ := litR_both (w0 := wr) (w := w8) (xs := l) (v := v8) (v0 := .slice (some ⟨wr.heap.size, 0, none⟩) 0 0) (l1 := wr.heap.size) (h1 := W2.heap.size) (l2 := W2.heap.size) (h2 := w8.heap.size) HUV.out.2 (Nat.le_refl _) hb2.size ⟨rfl, by have := HZ2.out; omega, owns_below hl2 hb8⟩ (ho8.imp id (fun h => ⟨h.2, fun b hb => (h.2.lt b hb).2⟩))
          exact ⟨F, h1⟩
        refine hK _ _ (fun _ => hS8) ?_
        clear hK K ho8
        obtain ⟨a9, c9, rfl⟩ := rows_form (rowsR.ofO o8)
        try simp only [Act.put, List.getElem_toArray, List.getElem_cons_zero, List.getElem_cons_succ, List.setIfInBounds_toArray, List.set_cons_zero, List.set_cons_succ]
        refine upto_step (i := 9) (by kernel_rfl) rfl ?_
        intro K hK
        go_simp
        have hS9 : (fun w' : World => w'.cell? ⟨B, 3, none⟩ = some (.slice av k cv) ∧ w'.cell? ⟨w.heap.size, 3, none⟩ = some (.slice (some ⟨b, o, none⟩) lt c4) ∧ w'.cell? ⟨b, o + k, none⟩ = some u) (w8.alloc (.cells #[.slice a9 l.length c9] 32)) := ⟨cell_keep (balloc (Below.refl _ _) _) hS8.1, cell_keep (balloc (Below.refl _ _) _) hS8.2.1, cell_keep (balloc (Below.refl _ _) _) hS8.2.2⟩
        refine hK _ _ (fun _ => hS9) ?_
        clear hK K
        try simp only [Act.put, List.getElem_toArray, List.getElem_cons_zero, List.getElem_cons_succ, List.setIfInBounds_toArray, List.set_cons_zero, List.set_cons_succ]
        have hbA : Below wr.heap.size wr (w8.alloc (.cells #[.slice a9 l.length c9] 32)) := balloc hbr8 _
        have hoA : rowsR.O (w8.alloc (.cells #[.slice a9 l.length c9] 32)) wr.heap.size F4 (.slice a9 l.length c9) l := rowsR.alloc o8 _
        have hbz := hbw.size
        refine upto_step (i := 10) (by kernel_rfl) rfl ?_
        intro K hK
        refine step_append_at _ rfl _ _ 33 rfl W0.heap.size 32 i0 _ 1 24 Tryz.underlying33 hif hz0 hz1 hz2 rfl (by decide) _ k cs rfl (owns_below HCk.out.o3.row hbA) ⟨w8.heap.size, 0, none⟩ 1 1 [.slice a9 l.length c9] rfl rfl ?_ ?_ (by unfold maxLen; omega) (by omega) (by have := hbA.size; omega) ?_
        · intro j u hj
          match j, hj with
          | 0, hj => simp at hj; subst hj; simp [Addr.add, go_sem]
          | j + 1, hj => simp at hj
        · intro u hu
          rw [List.mem_singleton] at hu
          rw [hu]
          rfl
        intro v5 w5 o5 g5 l5
        have HC5 := HCk.out.push hbA (by rw [HLL.out]; exact hoA) hbz o5 g5 l5
        have hown : ∀ b, (Value.slice av k cv).ownBlock = some b → W0.heap.size ≤ b := fun b hb => (HCk.out.o3.row.lt b hb).1
        have hc5 : w5.cell? ⟨B, 3, none⟩ = some (.slice av k cv) := cell_grown g5 hS9.1 (fun e => HCk.out.n3.1 e.symm)
        have hf5 : ∀ o, w5.frozen? ⟨B, o, none⟩ = false := fun o => ((Mod.of_grown g5).frozen (a := ⟨B, o, none⟩) (Nat.lt_of_lt_of_le hzB hbA.size) (fun e => HCk.out.n3.1 e)).trans (by rw [(bcell hbA).2 _ _ hzB]; exact hBf o)
        have HC6 : Hid (CpSt W0 (w5.setCell ⟨B, 3, none⟩ v5) W0.heap.size B d (k + 1) (.slice a6 d.log.synced.length c6) (.slice a7 d.log.loose.length c7) (.slice a8 d.mem.length c8) v5 F1 F3 (cs ++ [.slice a9 l.length c9]) (upd us k (.slice a9 l.length c9)) (upd fs k F4)) := HC5
        obtain ⟨a10, c10, rfl⟩ := owns_form o5
        have hS5 : (fun w' : World => w'.cell? ⟨B, 3, none⟩ = some (.slice av k cv) ∧ w'.cell? ⟨w.heap.size, 3, none⟩ = some (.slice (some ⟨b, o, none⟩) lt c4) ∧ w'.cell? ⟨b, o + k, none⟩ = some u) w5 := ⟨hc5, cell_grown g5 hS9.2.1 (fun e => by have h1 := hown _ e.symm; have h2 := HSZ.out; dsimp only at h1; omega), cell_grown g5 hS9.2.2 (fun e => by have h1 := hown _ e.symm; have h2 := HSZ.out; dsimp only at h1; omega)⟩
        refine hK _ _ (fun _ => hS5) ?_
        clear hK K HC5
        try simp only [Act.put, List.getElem_toArray, List.getElem_cons_zero, List.getElem_cons_succ, List.setIfInBounds_toArray, List.set_cons_zero, List.set_cons_succ]
        refine upto_take (i := 11) (v := ?_) rfl (by kernel_rfl) (by kernel_rfl) (by kernel_rfl) (by kernel_rfl) (fun _ _ _ h => h) (by rfl) hS5 ?_ ?_
        rotate_left
        · intro wS hSw
          try dsimp only at hSw
          first | (go_simp; done) | (go_simp; with_reducible rfl)
        try simp only [Act.put, List.getElem_toArray, List.getElem_cons_zero, List.getElem_cons_succ, List.setIfInBounds_toArray, List.set_cons_zero, List.set_cons_succ]
        refine upto_step (i := 12) (by kernel_rfl) rfl ?_
        intro K hK
        go_simp
        refine hK _ _ (fun h => absurd rfl h) ?_
        clear hK K
        refine upto_done (by kernel_rfl) ?_
        refine NoPanic.normal ?_
        clear hS2 hS8 hS9 hS5 hbA hoA o8 hb8 o5 g5 l5 HCk g0 hl2 hb2 hbr8 y3
        go_wp2
        exact ⟨⟨k + 1, _, _, _, _, by omega, by go_num, HC6⟩, by simp [intOf]; omega⟩
      · obtain rfl : k = d.tables.length := by omega
        have hi5 : ¬ ((d.tables.length : Int) < d.tables.length) := by omega
        obtain ⟨F, hE⟩ := HCk.out.engn
        obtain ⟨p0, p1, p2, p3, p4⟩ : wr.cell? ⟨B, 0, none⟩ = some (.slice a6 d.log.synced.length c6) ∧ wr.cell? ⟨B, 1, none⟩ = some (.slice a7 d.log.loose.length c7) ∧ wr.cell? ⟨B, 2, none⟩ = some (.slice a8 d.mem.length c8) ∧ wr.cell? ⟨B, 3, none⟩ = some (.slice av d.tables.length cv) ∧ wr.cell? ⟨B, 4, none⟩ = some (.int .i64 d.next) := ⟨HCk.out.c0, HCk.out.c1, HCk.out.c2, HCk.out.c3, HCk.out.c4⟩
        have hbw := HCk.out.blw
        have m0 := cell_keep hbw q0
        have m1 := cell_keep hbw q1
        have m2 := cell_keep hbw q2
        have m3 := cell_keep hbw q3
        have m4 := cell_keep hbw q4
        have hqz : w.heap.size + 1 < W0.heap.size := by have := HS0.out; omega
        have mf := (boxKeep ⟨qf, hqz⟩ hbw).1
        have hBf : Below w.heap.size w wr := bstep hb0 hbw
        have HEN : Hid (engnR.O wr W0.heap.size F (.agg #[.slice a6 d.log.synced.length c6, .slice a7 d.log.loose.length c7, .slice a8 d.mem.length c8, .slice av d.tables.length cv, .int .i64 d.next]) d) := hE
        have hz8 := World.block_lt_of_cell? _ _ p0
        have hz9 := World.block_lt_of_cell? _ _ m0
        dsimp only at hz8 hz9
        have hneB : ¬ w.heap.size + 1 = B := by have := HCk.out.lo; omega
        clear HCk hE hbw q0 q1 q2 q3 q4 qf hT
        go_wp2
        refine bodyPost_ret (v := .agg #[.slice a6 d.log.synced.length c6, .slice a7 d.log.loose.length c7, .slice a8 d.mem.length c8, .slice av d.tables.length cv, .int .i64 d.next]) (by simp [results, Tryz.results63, go_sem, m0, m1, m2, m3, m4, mf]) rfl ?_
        have hfin := engnR.base (engnR.set (engnR.set (engnR.set (engnR.set (engnR.set HEN.out (p := ⟨w.heap.size + 1, 0, none⟩) (.slice a6 d.log.synced.length c6) hqz) (p := ⟨w.heap.size + 1, 1, none⟩) (.slice a7 d.log.loose.length c7) hqz) (p := ⟨w.heap.size + 1, 2, none⟩) (.slice a8 d.mem.length c8) hqz) (p := ⟨w.heap.size + 1, 3, none⟩) (.slice av d.tables.length cv) hqz) (p := ⟨w.heap.size + 1, 4, none⟩) (.int .i64 d.next) hqz) hb0.size
        obtain ⟨g9, rfl⟩ := HSM.out
        first | exact ⟨_, F, rfl, hfin, ⟨_, _, _, _, _, _, _, _, rfl⟩, by (repeat (first | refine bset ?_ (by simp; omega) _ | refine bset ?_ (by simp) _ | refine balloc ?_ _ | assumption))⟩ | exact ⟨_, rfl, ⟨F, hfin⟩, ⟨_, _, _, _, _, _, _, _, rfl⟩, by (repeat (first | refine bset ?_ (by simp; omega) _ | refine bset ?_ (by simp) _ | refine balloc ?_ _ | assumption))⟩ | exact ⟨_, rfl, ⟨F, hfin, ⟨_, _, _, _, _, _, _, _, rfl⟩, by (repeat (first | refine bset ?_ (by simp; omega) _ | refine bset ?_ (by simp) _ | refine balloc ?_ _ | assumption))⟩⟩
end Go.Proofs.YtdfapehonegeeaaGreat

/-
  slices.Insert of one row into rows that own their memory.
-/
namespace Go.Proofs.YtdfapehonegeeaaGreat
open Go.RowKit Go.Shelf
set_option linter.unusedSectionVars false
variable [DecidableEq Rw] [Inhabited Rw] [DecidableEq TabR] [Inhabited TabR]
set_option linter.unusedVariables false
set_option linter.unusedSimpArgs false

theorem run_copyN (w : World) (dT sT ty elem : TypeId) (sz g o dLen dCap : Nat) (a : Addr) (sLen sCap m : Nat) (cur : Array Value) (t : TypeId) (cs : List Value)
    (hu : Tryz.prog.underlying dT = some (.slice elem)) (hs : (Tryz.prog.info? elem).map (·.size) = some sz)
    (hg : w.heap[g]? = some (.cells cur t (0, 0))) (hm : Nat.min sLen dLen = m) (hn : cs.length = m * sz)
    (hsrc : ∀ j v, cs[j]? = some v → w.cell? (a.add j) = some v) (hfit : o + cs.length ≤ cur.size) (h1 : ∀ v ∈ cs, v.oneCell' = true) :
    (Builtin.copy_ #[dT, sT] ty #[.slice (some ⟨g, o, none⟩) dLen dCap, .slice (some a) sLen sCap]).run Tryz.prog w =
      .ok (goInt m) (w.setRow g (cur.toList.take o ++ cs ++ cur.toList.drop (o + cs.length)).toArray) := by
  have hl := run_loadCells_list (P := Tryz.prog) w a cs hsrc
  have hst := run_storeCells_at Tryz.prog g o t cs 0 cur w hg (by simpa using hfit) h1
  cases hq : Tryz.prog.info? elem with
  | none => simp [hq] at hs
  | some i =>
    have hi : i.size = sz := by simpa [hq] using hs
    rw [hn] at hl
    simp [Builtin.copy_, run_underlying hu, Builtin.lenOf, Builtin.firstCells, sizeOf, typeInfo, hq, hi, hm, hl, hst]
theorem wpl_copyN (w : World) {ops : Array Oper} {rest : List Oper} {o : Oper} {a : Act} {Q : Exit → Act → World → Prop} (hgd : o.guard = none) (d s : Operand) (t t' : TypeId)
    (ho : o.op = .call { callee := .builtin .copy, args := #[d, s], argTypes := #[t, t'] }) (v u : Value) (hd : a.eval d = v) (hs : a.eval s = u) {v' : Value} {w' : World}
    (hr : (Builtin.copy_ #[t, t'] o.type #[v, u]).run Tryz.prog w = .ok v' w') (h : wpList Tryz.prog ops Q rest (a.put o.dst v') w') : wpList Tryz.prog ops Q (o :: rest) a w := by
  refine wpList_plain hgd fun K hK => ?_
  unfold Oper.wp execOp
  simp only [ho, resolve, invoke, builtin, Sem.run_bind, Sem.run_pure, Result.andThen_ok, List.map_toArray, List.map_cons, List.map_nil, hd, hs, hr]
  exact hK _ _ h
theorem step_copyN {ops : Array Oper} {o : Oper} {a : Act} {w : World} {K : Act → World → Prop} {Q : Exit → Act → World → Prop} {E : Prop} (hgd : o.guard = none) (d s : Operand) (t t' : TypeId)
    (ho : o.op = .call { callee := .builtin .copy, args := #[d, s], argTypes := #[t, t'] }) (v u : Value) (hd : a.eval d = v) (hs : a.eval s = u) {v' : Value} {w' : World}
    (hr : (Builtin.copy_ #[t, t'] o.type #[v, u]).run Tryz.prog w = .ok v' w') (hK : K (a.put o.dst v') w') :
    if Region.wanted o (yielded ops a.tmps) = true then Oper.wp Tryz.prog o a w K Q else E := by
  have hw : Region.wanted o (yielded ops a.tmps) = true := by simp [Region.wanted, hgd]
  rw [if_pos hw]
  unfold Oper.wp execOp
  simp only [ho, resolve, invoke, builtin, Sem.run_bind, Sem.run_pure, Result.andThen_ok, List.map_toArray, List.map_cons, List.map_nil, hd, hs, hr]
  exact hK
theorem mod_setRow (w : World) (g : Nat) (cs : Array Value) : Mod (fun b => b = g) w (w.setRow g cs) :=
  ⟨rfl, rfl, rfl, by simp [World.setRow], fun k _ hn => setRow_other w g k cs hn⟩
theorem addr_add (b o j : Nat) : (⟨b, o, none⟩ : Addr).add j = ⟨b, o + j, none⟩ := by
  by_cases hj0 : j = 0
  · subst hj0; simp [Addr.add]
  · simp [Addr.add, hj0]
theorem cell_row {w : World} {g j : Nat} {cur : Array Value} {t : TypeId} {fr : Nat × Nat} {v : Value} (hg : w.heap[g]? = some (.cells cur t fr)) (h : cur.toList[j]? = some v) : w.cell? ⟨g, j, none⟩ = some v := by
  have : cur[j]? = some v := by rw [← Array.getElem?_toList]; exact h
  simp [World.cell?, hg, this]
theorem shift_row {cur cs vs : List Value} {k m : Nat} (hk : k ≤ cs.length) (hc : cur.take cs.length = cs) (hl : cs.length + m ≤ cur.length) (hv : vs.length = m) :
    ((((cur.take (k + m) ++ cs.drop k ++ cur.drop (k + m + (cs.drop k).length)).take k ++ vs ++ (cur.take (k + m) ++ cs.drop k ++ cur.drop (k + m + (cs.drop k).length)).drop (k + vs.length)).length = cur.length) ∧
    ((cur.take (k + m) ++ cs.drop k ++ cur.drop (k + m + (cs.drop k).length)).take k ++ vs ++ (cur.take (k + m) ++ cs.drop k ++ cur.drop (k + m + (cs.drop k).length)).drop (k + vs.length)).take (cs.length + m) = cs.take k ++ vs ++ cs.drop k) := by
  subst hv
  have h1 : (cur.take (k + vs.length) ++ cs.drop k ++ cur.drop (k + vs.length + (cs.drop k).length)).take k = cs.take k := by
    rw [List.append_assoc, List.take_append_of_le_length (by rw [List.length_take]; omega), List.take_take]
    conv => rhs; rw [← hc, List.take_take]
    congr 1
    omega
  have h2 : (cur.take (k + vs.length) ++ cs.drop k ++ cur.drop (k + vs.length + (cs.drop k).length)).drop (k + vs.length) = cs.drop k ++ cur.drop (k + vs.length + (cs.drop k).length) := by
    rw [List.append_assoc, List.drop_append_of_le_length (by rw [List.length_take]; omega), List.drop_take]
    simp
  rw [h1, h2]
  have hd : (cs.drop k).length = cs.length - k := List.length_drop ..
  constructor
  · simp only [List.length_append, List.length_take, List.length_drop]
    omega
  · rw [← List.append_assoc, List.take_append_of_le_length (by simp only [List.length_append, List.length_take, List.length_drop]; omega), List.take_of_length_le (by simp only [List.length_append, List.length_take, List.length_drop]; omega)]
set_option maxHeartbeats 4000000 in
set_option maxRecDepth 100000 in
theorem insert_shift (g n c i vb : Nat) (cs vs : List Value) (cur : Array Value) (w : World) (hg : w.heap[g]? = some (.cells cur 76 (0, 0))) (hi : i < n) (hroom : n + 1 ≤ c) (hc63 : c ≤ 9223372036854775807) (hvb : vb ≠ g)
    (hcur : cur.size = c * 4) (hcl : cs.length = n * 4) (ht : cur.toList.take (n * 4) = cs) (hvl : vs.length = 4) (hv : w.heap[vb]? = some (.cells vs.toArray 76 (0, 0))) (h1c : ∀ v ∈ cs, v.oneCell' = true) (h1v : ∀ v ∈ vs, v.oneCell' = true) :
    Calls Tryz.prog 158 #[.slice (some ⟨g, 0, none⟩) n c, .int .i64 i, .slice (some ⟨vb, 0, none⟩) 1 1] w fun e w' =>
      e = .returned (.slice (some ⟨g, 0, none⟩) (n + 1) c) ∧ ∃ cur' : Array Value, w'.heap[g]? = some (.cells cur' 76 (0, 0)) ∧ cur'.size = c * 4 ∧ cur'.toList.take ((n + 1) * 4) = cs.take (i * 4) ++ vs ++ cs.drop (i * 4) ∧ Mod (fun b => b = g) w w' := by
  have hz2 : ¬ ((i : Int) = (n : Int)) := by omega
  have hsz : (Tryz.prog.info? 76).map (·.size) = some 4 := by
    obtain ⟨i0, hi0, _, h1, _⟩ := info_parts infoRw
    rw [hi0]; simp [h1]
  have hzz : ∀ w, (Go.sizeOf 76).run Tryz.prog w = .ok 4 w := fun w => by
    obtain ⟨i0, hi0, _, h1, _⟩ := info_parts infoRw
    simp [sizeOf, typeInfo, hi0, h1]
  have hov : ∀ lb cb, (callFunc 172 #[.slice (some ⟨vb, 0, none⟩) 1 1, .slice (some ⟨g, (i + 1) * 4, none⟩) lb cb]).run Tryz.prog w = .ok (.value (.bool false)) w := fun lb cb => by
    rw [run_callFunc_extern Tryz.func172 (by kernel_rfl) (by kernel_rfl) (by kernel_rfl) (e := Extern.SlicesOverlaps.overlaps #[32, 32] #[4]) (by kernel_rfl),
      Lib.run_overlaps_apart w 32 4 76 Tryz.underlying32 4 hzz ⟨vb, 0, none⟩ ⟨g, (i + 1) * 4, none⟩ 1 1 lb cb hvb 76 76 4 (c * 4) (by simp [World.shape?, hv, hvl]) (by simp [World.shape?, hg, hcur]) (by omega) (by simp [World.frozen?, hv]) (by simp [World.frozen?, hv])]
    rfl
  have hdl : (cs.drop (i * 4)).length = (n - i) * 4 := by rw [List.length_drop, hcl]; omega
  have hb1 : (0 : Int) ≤ (i : Int) + 1 := by omega
  have hw1 : IntKind.i64.wrap ((i : Int) + 1) = (i : Int) + 1 := by rw [IntKind.wrap_i64]; omega
  have htn : ((i : Int) + 1).toNat = i + 1 := by omega
  have hin : i ≤ n := by omega
  have hb2 : ¬ (c = i + 1) := by omega
  have hb3 : (i : Int) ≤ (n : Int) + 1 := by omega
  have hb4 : ¬ (c = i) := by omega
  obtain ⟨A1, hA1⟩ : ∃ A1 : Array Value, A1 = (cur.toList.take ((i + 1) * 4) ++ cs.drop (i * 4) ++ cur.toList.drop ((i + 1) * 4 + (cs.drop (i * 4)).length)).toArray := ⟨_, rfl⟩
  have hcp1 : ∀ ty dl dc sl sc, dl = n - i → sl = n + 1 - i → (Builtin.copy_ #[32, 32] ty #[.slice (some ⟨g, (i + 1) * 4, none⟩) dl dc, .slice (some ⟨g, i * 4, none⟩) sl sc]).run Tryz.prog w.drew = .ok (goInt ((n - i : Nat) : Int)) (w.drew.setRow g A1) := fun ty dl dc sl sc e1 e2 => by
    rw [hA1]
    refine run_copyN w.drew _ _ ty 76 4 g ((i + 1) * 4) dl dc ⟨g, i * 4, none⟩ sl sc (n - i) cur 76 (cs.drop (i * 4)) Tryz.underlying32 hsz hg (by simp only [Nat.min_def]; split <;> omega) hdl (fun j v hj => ?_) (by rw [hdl, hcur]; omega) (fun v hv => h1c v (List.mem_of_mem_drop hv))
    rw [addr_add]
    refine cell_row hg ?_
    rw [List.getElem?_drop, ← ht, List.getElem?_take] at hj
    split at hj
    · exact hj
    · cases hj
  have hA1s : A1.size = c * 4 := by
    rw [hA1]
    simp only [List.size_toArray, List.length_append, List.length_take, List.length_drop, Array.length_toList]
    rw [hcl]
    omega
  have hg1 : (w.drew.setRow g A1).heap[g]? = some (.cells A1 76 (0, 0)) := setRow_heap w.drew g cur A1 _ _ hg
  have hv1 : (w.drew.setRow g A1).heap[vb]? = some (.cells vs.toArray 76 (0, 0)) := (setRow_other w.drew g vb A1 hvb).trans hv
  obtain ⟨W1, hW1⟩ : ∃ W1, W1 = w.drew.setRow g A1 := ⟨_, rfl⟩
  rw [← hW1] at hg1 hv1 hcp1
  have hm1 : Mod (fun b => b = g) w W1 := by
    rw [hW1]
    exact (Mod.of_below (Below.drew (Below.refl _ _))).trans (mod_setRow _ _ _)
  obtain ⟨A2, hA2⟩ : ∃ A2 : Array Value, A2 = (A1.toList.take (i * 4) ++ vs ++ A1.toList.drop (i * 4 + vs.length)).toArray := ⟨_, rfl⟩
  have hcp2 : ∀ (W : World), W.heap[g]? = some (.cells A1 76 (0, 0)) → W.heap[vb]? = some (.cells vs.toArray 76 (0, 0)) → ∀ ty dc, (Builtin.copy_ #[32, 32] ty #[.slice (some ⟨g, i * 4, none⟩) (n + 1 - i) dc, .slice (some ⟨vb, 0, none⟩) 1 1]).run Tryz.prog W = .ok (goInt 1) (W.setRow g A2) := fun W hW1 hW2 ty dc => by
    rw [hA2]
    refine run_copyN W _ _ ty 76 4 g (i * 4) (n + 1 - i) dc ⟨vb, 0, none⟩ 1 1 1 A1 76 vs Tryz.underlying32 hsz hW1 (by simp only [Nat.min_def]; split <;> omega) (by omega) (fun j v hj => ?_) (by rw [hvl, hA1s]; omega) h1v
    rw [addr_add]
    exact cell_row hW2 (by simpa using hj)
  have hfin : A2.size = c * 4 ∧ A2.toList.take ((n + 1) * 4) = cs.take (i * 4) ++ vs ++ cs.drop (i * 4) := by
    have h := shift_row (cur := cur.toList) (cs := cs) (vs := vs) (k := i * 4) (m := 4) (by rw [hcl]; omega) (by rw [hcl]; exact ht) (by rw [hcl, Array.length_toList, hcur]; omega) hvl
    rw [hA2, hA1]
    rw [show (i + 1) * 4 = i * 4 + 4 by omega, show (n + 1) * 4 = cs.length + 4 by rw [hcl]; omega]
    refine ⟨?_, h.2⟩
    rw [List.size_toArray]
    have h1 := h.1
    have h2 : cur.toList.length = c * 4 := by rw [Array.length_toList, hcur]
    rw [h2] at h1
    exact h1
  clear hA1 hA2 hW1
  have HF : Hid (A2.size = c * 4 ∧ A2.toList.take ((n + 1) * 4) = cs.take (i * 4) ++ vs ++ cs.drop (i * 4)) := hfin
  clear hfin
  go_enter Tryz.func158, Tryz.ntmps158
  go_wp2_with (simp only [hov])
  go_region_law (refine step_copyN rfl (.tmp 73) (.tmp 76) 32 32 rfl _ _ (by simp [Act.eval, Act.put]) (by simp [Act.eval, Act.put]) (hcp1 _ _ _ _ _ (by omega) (by omega)) ?_)
  go_wp2_with (at_builtin; refine wpl_copyN _ rfl _ _ 32 32 rfl _ _ rfl rfl (hcp2 _ hg1 hv1 _ _) ?_)
  go_ret
  refine ⟨rfl, A2, setRow_heap _ g A1 A2 _ _ hg1, HF.out.1, HF.out.2, hm1.trans (mod_setRow _ _ _)⟩
end Go.Proofs.YtdfapehonegeeaaGreat

/-
  slices.Insert at the end.
-/
namespace Go.Proofs.YtdfapehonegeeaaGreat
open Go.RowKit Go.Shelf
set_option linter.unusedSectionVars false
variable [DecidableEq Rw] [Inhabited Rw] [DecidableEq TabR] [Inhabited TabR]
set_option linter.unusedVariables false
set_option linter.unusedSimpArgs false

set_option maxHeartbeats 4000000 in
set_option maxRecDepth 100000 in
theorem insert_end (base : Nat) (v : Value) (n vb : Nat) (cs vs : List Value) (w : World) (hown : w.ownsRow base 76 4 v n cs) (hn : n ≤ 1048576) (hbase : base ≤ w.heap.size)
    (hvl : vs.length = 4) (hv : w.heap[vb]? = some (.cells vs.toArray 76 (0, 0))) (h1v : ∀ v ∈ vs, v.oneCell' = true) :
    Calls Tryz.prog 158 #[v, .int .i64 n, .slice (some ⟨vb, 0, none⟩) 1 1] w fun e w' =>
      ∃ v', e = .returned v' ∧ w'.ownsRow base 76 4 v' (n + 1) (cs ++ vs) ∧ w.grownBy w' v.ownBlock ∧ (v'.ownBlock = v.ownBlock ∨ v'.ownBlock = some w.heap.size) := by
  obtain ⟨i0, hi, hz0, hz1, hz2⟩ := info_parts infoRw
  have HV : Hid (∀ j u, vs[j]? = some u → w.cell? ((⟨vb, 0, none⟩ : Addr).add j) = some u) := fun j u hj => by
    rw [addr_add]
    exact cell_row hv (by simpa using hj)
  obtain ⟨a, c, rfl⟩ := owns_form hown
  have hnc : n ≤ c := by
    rcases hown.2 with ⟨_, h⟩ | ⟨g, cap, cur, h, _, _, h2, _⟩
    · omega
    · simp only [Value.slice.injEq] at h; omega
  have hcm : c ≤ 9223372036854775807 := by
    rcases hown.2 with ⟨h, _⟩ | ⟨g, cap, cur, h, _, _, h2, h3, _⟩
    · simp only [Value.slice.injEq] at h; omega
    · simp only [Value.slice.injEq] at h; unfold maxLen at h3; omega
  rcases Nat.eq_or_lt_of_le hnc with rfl | h0
  all_goals
    try (have hck : ¬ c = n := by omega)
    go_enter Tryz.func158, Tryz.ntmps158
    go_wp2_with (at_builtin; refine wpList_append_own_at w rfl (.tmp 23) (.tmp 24) 32 rfl base 76 i0 _ 4 48 Tryz.underlying32 hi hz0 hz1 hz2 rfl (by decide) _ n cs rfl hown ⟨vb, 0, none⟩ 1 1 vs rfl hvl HV.out h1v ?_ ?_ hbase ?_)
    · unfold maxLen; omega
    · omega
    intro v' w' h1 h2 h3 h4
    obtain ⟨a', c', rfl⟩ := owns_form h1
    go_wp2
    go_ret
    exact ⟨_, rfl, h1, h2, h4⟩
end Go.Proofs.YtdfapehonegeeaaGreat

