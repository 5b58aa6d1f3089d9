import Derived.Test.YtecfelacdapdgaaGreatPrnEventsOfLaw12
import Derived.Test.YtecfelacdapdgaaGreatPrnEventsOfLaw2
import Derived.Maps.AppendAt
import Derived.Deep.RegionHeld3
import Derived.Test.YtecfelacdapdgaaGreatPrnEventsOfLaw4

/-
  A log: the program's parts.
-/
namespace Go.Proofs.YtecfelacdapdgaaGreat
open Go.RowKit
set_option linter.unusedSectionVars false
variable [DecidableEq Logg] [Inhabited Logg] [DecidableEq LoggR] [Inhabited LoggR] [DecidableEq BytesR] [Inhabited BytesR] [DecidableEq RecsR] [Inhabited RecsR] [DecidableEq Leg] [Inhabited Leg]
set_option linter.unusedSimpArgs false
attribute [local go_sem ↓] Go.wp_at_zero Go.wp_at_succ

set_option maxHeartbeats 2000000 in
theorem readerOf_any (x : Value) (d : Logg) (w : World) (hx : loggR.V w x d) (hn : wtLogg d ≤ 1048576) :
    Calls Tryz.prog 86 #[x] w fun e w' => ∃ v F, e = .returned (.agg #[v, .int .i64 d.synced.length]) ∧ bytesR.O w' w.heap.size F v (d.synced ++ d.loose) ∧ Below w.heap.size w w' := by
  have hX := hx
  obtain ⟨u1, u2, rfl, h1, h2⟩ := hx
  obtain ⟨a1, c1, rfl⟩ := bytes_form h1
  obtain ⟨a2, c2, rfl⟩ := bytes_form h2
  unfold wtLogg wtBytes at hn
  have u1 : IntKind.i64.wrap (d.synced.length : Int) = d.synced.length := by rw [IntKind.wrap_i64]; omega
  have HL : Hid ([d.synced, d.loose].flatten = d.synced ++ d.loose) := by simp [Hid]
  go_enter Tryz.func86, Tryz.ntmps86
  go_wp2
  refine wp_region_noPanic ?_
  refine region_upto (fun w' => Below w.heap.size w w' ∧ w'.cell? ⟨w.heap.size, 0, none⟩ = some (.slice a1 d.synced.length c1) ∧ w'.cell? ⟨w.heap.size, 1, none⟩ = some (.slice a2 d.loose.length c2)) 10 (by kernel_rfl) ⟨by (repeat (first | exact Below.refl _ _ | assumption | refine Below.drew ?_ | refine balloc ?_ _ | refine bset ?_ (by simp; omega) _ | refine bset ?_ (by simp) _ | refine bstep ?_ (by assumption))), by simp [go_sem], by simp [go_sem]⟩ (fun hS => ?_)
  refine upto_take (i := 0) (v := ?_) rfl (by kernel_rfl) (by kernel_rfl) (by kernel_rfl) (by kernel_rfl) (fun _ _ _ h => h) (by rfl) hS ?_ ?_
  rotate_left
  · intro wS hSw
    try dsimp only at hSw
    first | (go_simp; done) | (go_simp; with_reducible rfl)
  try simp only [Act.put, List.getElem_toArray, List.getElem_cons_zero, List.getElem_cons_succ, List.setIfInBounds_toArray, List.set_cons_zero, List.set_cons_succ]
  refine upto_take (i := 1) (v := ?_) rfl (by kernel_rfl) (by kernel_rfl) (by kernel_rfl) (by kernel_rfl) (fun _ _ _ h => h) (by rfl) hS ?_ ?_
  rotate_left
  · intro wS hSw
    try dsimp only at hSw
    first | (go_simp; done) | (go_simp; with_reducible rfl)
  try simp only [Act.put, List.getElem_toArray, List.getElem_cons_zero, List.getElem_cons_succ, List.setIfInBounds_toArray, List.set_cons_zero, List.set_cons_succ]
  refine upto_take (i := 2) (v := ?_) rfl (by kernel_rfl) (by kernel_rfl) (by kernel_rfl) (by kernel_rfl) (fun _ _ _ h => h) (by rfl) hS ?_ ?_
  rotate_left
  · intro wS hSw
    try dsimp only at hSw
    first | (go_simp; done) | (go_simp; with_reducible rfl)
  try simp only [Act.put, List.getElem_toArray, List.getElem_cons_zero, List.getElem_cons_succ, List.setIfInBounds_toArray, List.set_cons_zero, List.set_cons_succ]
  refine upto_take (i := 3) (v := ?_) rfl (by kernel_rfl) (by kernel_rfl) (by kernel_rfl) (by kernel_rfl) (fun _ _ _ h => h) (by rfl) hS ?_ ?_
  rotate_left
  · intro wS hSw
    try dsimp only at hSw
    first | (go_simp; done) | (go_simp; with_reducible rfl)
  try simp only [Act.put, List.getElem_toArray, List.getElem_cons_zero, List.getElem_cons_succ, List.setIfInBounds_toArray, List.set_cons_zero, List.set_cons_succ]
  refine upto_take (i := 6) (v := ?_) rfl (by kernel_rfl) (by kernel_rfl) (by kernel_rfl) (by kernel_rfl) (fun _ _ _ h => h) (by rfl) hS ?_ ?_
  rotate_left
  · intro wS hSw
    try dsimp only at hSw
    first | (go_simp; done) | (go_simp; with_reducible rfl)
  try simp only [Act.put, List.getElem_toArray, List.getElem_cons_zero, List.getElem_cons_succ, List.setIfInBounds_toArray, List.set_cons_zero, List.set_cons_succ]
  refine upto_take (i := 7) (v := ?_) rfl (by kernel_rfl) (by kernel_rfl) (by kernel_rfl) (by kernel_rfl) (fun _ _ _ h => h) (by rfl) hS ?_ ?_
  rotate_left
  · intro wS hSw
    try dsimp only at hSw
    first | (go_simp; done) | (go_simp; with_reducible rfl)
  try simp only [Act.put, List.getElem_toArray, List.getElem_cons_zero, List.getElem_cons_succ, List.setIfInBounds_toArray, List.set_cons_zero, List.set_cons_succ]
  refine upto_take (i := 8) (v := ?_) rfl (by kernel_rfl) (by kernel_rfl) (by kernel_rfl) (by kernel_rfl) (fun _ _ _ h => h) (by rfl) hS ?_ ?_
  rotate_left
  · intro wS hSw
    try dsimp only at hSw
    first | (go_simp; done) | (go_simp; with_reducible rfl)
  try simp only [Act.put, List.getElem_toArray, List.getElem_cons_zero, List.getElem_cons_succ, List.setIfInBounds_toArray, List.set_cons_zero, List.set_cons_succ]
  refine upto_step (i := 4) (by kernel_rfl) rfl ?_
  intro K hK
  go_simp
  refine hK _ _ (fun _ => ⟨by (repeat (first | exact Below.refl _ _ | assumption | refine Below.drew ?_ | refine balloc ?_ _ | refine bset ?_ (by simp; omega) _ | refine bset ?_ (by simp) _ | refine bstep ?_ (by assumption))), by simp [go_sem], by simp [go_sem]⟩) ?_
  clear hK K
  try simp only [Act.put, List.getElem_toArray, List.getElem_cons_zero, List.getElem_cons_succ, List.setIfInBounds_toArray, List.set_cons_zero, List.set_cons_succ]
  refine upto_step (i := 5) (by kernel_rfl) rfl ?_
  intro K hK
  go_simp
  refine (joined_any _ [d.synced, d.loose] _ (bytess2 (g := w.heap.size + 1 + 1) (by simp [go_sem]; done) (by simp [go_sem]; done) (bytesR.below h1 (by (repeat (first | exact Below.refl _ _ | assumption | refine Below.drew ?_ | refine balloc ?_ _ | refine bset ?_ (by simp; omega) _ | refine bset ?_ (by simp) _ | refine bstep ?_ (by assumption))))) (bytesR.below h2 (by (repeat (first | exact Below.refl _ _ | assumption | refine Below.drew ?_ | refine balloc ?_ _ | refine bset ?_ (by simp; omega) _ | refine bset ?_ (by simp) _ | refine bstep ?_ (by assumption)))))) (by rw [HL.out]; simp; omega)).mono ?_
  rintro e w3 ⟨v, F, rfl, o3, hb3⟩
  rw [HL.out] at o3
  obtain ⟨a3, c3, rfl⟩ := bytes_form (bytesR.ofO o3)
  have hS3 : (fun w' => Below w.heap.size w w' ∧ w'.cell? ⟨w.heap.size, 0, none⟩ = some (.slice a1 d.synced.length c1) ∧ w'.cell? ⟨w.heap.size, 1, none⟩ = some (.slice a2 d.loose.length c2)) w3 := ⟨by (repeat (first | exact Below.refl _ _ | assumption | refine Below.drew ?_ | refine balloc ?_ _ | refine bset ?_ (by simp; omega) _ | refine bset ?_ (by simp) _ | refine bstep ?_ (by assumption))), cell_keep hb3 (by simp [go_sem]), cell_keep hb3 (by simp [go_sem])⟩
  have r0 : w3.cell? ⟨w.heap.size + 1, 0, none⟩ = some (.slice none 0 0) := cell_keep hb3 (by simp [go_sem])
  have r1 : w3.cell? ⟨w.heap.size + 1, 1, none⟩ = some (.int .i64 0) := cell_keep hb3 (by simp [go_sem])
  have rf : ∀ o, w3.frozen? ⟨w.heap.size + 1, o, none⟩ = false := fun o => by rw [(bcell hb3).2 _ _ (by simp)]; simp [go_sem]
  have hB3 : Below w.heap.size w w3 := hS3.1
  have HO : Hid (bytesR.O w3 (w.heap.size + 2) F (.slice a3 (d.synced ++ d.loose).length c3) (d.synced ++ d.loose)) := bytesR.base o3 (by simp)
  refine hK _ _ (fun _ => hS3) ?_
  clear hK K o3 hb3
  try simp only [Act.put, List.getElem_toArray, List.getElem_cons_zero, List.getElem_cons_succ, List.setIfInBounds_toArray, List.set_cons_zero, List.set_cons_succ]
  refine upto_take (i := 9) (v := ?_) rfl (by kernel_rfl) (by kernel_rfl) (by kernel_rfl) (by kernel_rfl) (fun _ _ _ h => h) (by rfl) hS3 ?_ ?_
  rotate_left
  · intro wS hSw
    try dsimp only at hSw
    first | (go_simp; done) | (go_simp; with_reducible rfl)
  try simp only [Act.put, List.getElem_toArray, List.getElem_cons_zero, List.getElem_cons_succ, List.setIfInBounds_toArray, List.set_cons_zero, List.set_cons_succ]
  refine upto_step (i := 10) (by kernel_rfl) rfl ?_
  intro K hK
  go_simp
  refine hK _ _ (fun h => absurd rfl h) ?_
  clear hK K
  refine upto_done (by kernel_rfl) ?_
  refine NoPanic.normal ?_
  clear hS hS3
  go_wp2
  have ho : bytesR.O w3 (w.heap.size + 2) F (.slice a3 (d.synced.length + d.loose.length) c3) (d.synced ++ d.loose) := by have h := HO.out; simpa using h
  refine bodyPost_ret (v := .agg #[.slice a3 (d.synced.length + d.loose.length) c3, .int .i64 d.synced.length]) ?_ rfl ⟨_, F, rfl, bytesR.base (bytesR.set (bytesR.set ho _ (by simp)) _ (by simp)) (by omega), by (repeat (first | exact Below.refl _ _ | assumption | refine Below.drew ?_ | refine balloc ?_ _ | refine bset ?_ (by simp; omega) _ | refine bset ?_ (by simp) _ | refine bstep ?_ (by assumption)))⟩
  simp [results, Tryz.results86, go_sem, r0, r1]
set_option maxHeartbeats 1000000 in
theorem records_any (x : Value) (xs : List Byte) (w : World) (hx : bytesR.V w x xs) :
    Calls Tryz.prog 87 #[x] w fun e w' => ∃ v F, e = .returned v ∧ recsRR.O w' w.heap.size F v (recsD xs) ∧ Below w.heap.size w w' := by
  have hX := hx
  obtain ⟨ax, cx, rfl⟩ := bytes_form hx
  go_enter Tryz.func87, Tryz.ntmps87
  go_wp2_with fail
  refine (implUnframe_u _ xs _ (bytesR.below hX (by (repeat (first | exact Below.refl _ _ | assumption | refine Below.drew ?_ | refine balloc ?_ _ | refine bset ?_ (by simp; omega) _ | refine bset ?_ (by simp) _ | refine bstep ?_ (by assumption)))))).mono ?_
  rintro e w1 ⟨v, F, rfl, ho, hb⟩
  have fv := recsRR.ofO ho
  obtain ⟨a1, c1, rfl⟩ := recsR_form fv
  obtain ⟨c2, f2⟩ := bcell hb
  have ho' := recsRR.base (base' := w.heap.size + 1) ho (by simp)
  go_wp2
  refine bodyPost_ret (v := .agg #[.int .i64 (recsD xs).code, .int .i64 (recsD xs).used, .slice a1 (recsD xs).records.length c1]) ?_ rfl ⟨_, F, rfl, recsRR.base (recsRR.set (recsRR.set (recsRR.set ho' _ (by simp)) _ (by simp)) _ (by simp)) (by omega), by (repeat (first | exact Below.refl _ _ | assumption | refine Below.drew ?_ | refine balloc ?_ _ | refine bset ?_ (by simp; omega) _ | refine bset ?_ (by simp) _ | refine bstep ?_ (by assumption)))⟩
  simp [results, Tryz.results87, go_sem, c2]
end Go.Proofs.YtecfelacdapdgaaGreat

/-
  A log: what is told of it, on both sides.
-/
namespace Go.Proofs.YtecfelacdapdgaaGreat
open Go.RowKit
set_option linter.unusedSectionVars false
variable [DecidableEq Logg] [Inhabited Logg] [DecidableEq LoggR] [Inhabited LoggR] [DecidableEq BytesR] [Inhabited BytesR] [DecidableEq RecsR] [Inhabited RecsR] [DecidableEq Leg] [Inhabited Leg]
set_option linter.unusedSimpArgs false
attribute [local go_sem ↓] Go.wp_at_zero Go.wp_at_succ

def readD (d : Logg) : RecsR := if logF d = 0 then recsD (d.synced ++ d.loose) else ⟨2, 0, []⟩
theorem logF_cases (d : Logg) : (logF d = 0 ∧ d.synced.length + d.loose.length ≤ 6000) ∨ logF d = 2 := by
  unfold logF
  split
  · exact .inr rfl
  · exact .inl ⟨rfl, by omega⟩
set_option maxHeartbeats 2000000 in
theorem implRead_u (x : Value) (d : Logg) (w : World) (hx : loggR.V w x d) (hn : wtLogg d ≤ 1048576) :
    Calls Tryz.prog 55 #[x] w fun e w' => ∃ v F, e = .returned v ∧ recsRR.O w' w.heap.size F v (readD d) ∧ Below w.heap.size w w' := by
  have hX := hx
  obtain ⟨a1, a2, c1, c2, rfl⟩ := logg_form hx
  go_enter Tryz.func55, Tryz.ntmps55
  go_wp2_with fail
  refine (implLogF_any _ d _ (loggR.below hX (by (repeat (first | exact Below.refl _ _ | assumption | refine Below.drew ?_ | refine balloc ?_ _ | refine bset ?_ (by simp; omega) _ | refine bset ?_ (by simp) _ | refine bstep ?_ (by assumption))))) hn).mono ?_
  rintro e w1 ⟨rfl, hb1⟩
  have x0 : w1.cell? ⟨w.heap.size, 0, none⟩ = some (.slice a1 d.synced.length c1) := cell_keep hb1 (by simp [go_sem])
  have x1 : w1.cell? ⟨w.heap.size, 1, none⟩ = some (.slice a2 d.loose.length c2) := cell_keep hb1 (by simp [go_sem])
  have r0 : w1.cell? ⟨w.heap.size + 1, 0, none⟩ = some (.int .i64 0) := cell_keep hb1 (by simp [go_sem])
  have r1 : w1.cell? ⟨w.heap.size + 1, 1, none⟩ = some (.int .i64 0) := cell_keep hb1 (by simp [go_sem])
  have r2 : w1.cell? ⟨w.heap.size + 1, 2, none⟩ = some (.slice none 0 0) := cell_keep hb1 (by simp [go_sem])
  have rf : ∀ o, w1.frozen? ⟨w.heap.size + 1, o, none⟩ = false := fun o => by rw [(bcell hb1).2 _ _ (by simp)]; simp [go_sem]
  have s1 := hb1.size
  simp only [World.size_alloc] at s1
  have hB1 : Below w.heap.size w w1 := by (repeat (first | exact Below.refl _ _ | assumption | refine Below.drew ?_ | refine balloc ?_ _ | refine bset ?_ (by simp; omega) _ | refine bset ?_ (by simp) _ | refine bstep ?_ (by assumption)))
  clear hb1
  have z0 : w.heap.size < w1.heap.size := by omega
  have z1 : w.heap.size + 1 < w1.heap.size := by omega
  rcases logF_cases d with ⟨h0, hl⟩ | h0
  rotate_left
  · have HD : Hid (readD d = ⟨2, 0, []⟩) := by unfold Hid readD; rw [if_neg (by omega)]
    rw [h0]
    go_wp2
    refine bodyPost_ret (v := .agg #[.int .i64 2, .int .i64 0, .slice none 0 0]) ?_ rfl ?_
    · simp [results, Tryz.results55, go_sem, r0, r1, r2]
    · rw [HD.out]
      exact ⟨_, none_, rfl, recsR_nil _ _ _ _, by (repeat (first | exact Below.refl _ _ | assumption | refine Below.drew ?_ | refine balloc ?_ _ | refine bset ?_ (by simp; omega) _ | refine bset ?_ (by simp) _ | refine bstep ?_ (by assumption)))⟩
  rw [h0]
  have hXw := loggR.below hX hB1
  clear hX hx
  have HD : Hid (readD d = recsD (d.synced ++ d.loose)) := by unfold Hid readD; rw [if_pos h0]
  go_wp2_with fail
  refine (readerOf_any _ d _ hXw hn).mono ?_
  rintro e w2 ⟨v, F, rfl, ho, hb⟩
  have hB2 : Below w.heap.size w w2 := bstep hB1 hb
  have V3 := bytesR.ofO ho
  generalize d.synced ++ d.loose = bs at *
  obtain ⟨a3, c3, rfl⟩ := bytes_form V3
  have hfd : ∀ w : World, (Instr.field 135 (.agg #[.slice a3 bs.length c3, .int .i64 (d.synced.length : Int)]) 0).run Tryz.prog w = .ok (.slice a3 bs.length c3) w := fun _ => by kernel_rfl
  have qx0 := cell_keep hb x0
  have qx1 := cell_keep hb x1
  have qr0 := cell_keep hb r0
  have qr1 := cell_keep hb r1
  have qr2 := cell_keep hb r2
  have qrf := (boxKeep ⟨rf, z1⟩ hb).1
  have qz0 := Nat.lt_of_lt_of_le z0 hb.size
  have qz1 := Nat.lt_of_lt_of_le z1 hb.size
  clear x0 x1 r0 r1 r2 rf z0 z1
  clear ho hb hB1 hXw
  go_wp2_with fail
  refine (records_any _ bs _ V3).mono ?_
  rintro e w4 ⟨v, F4, rfl, ho, hb⟩
  have hB3 : Below w.heap.size w w4 := bstep hB2 hb
  have fv := recsRR.ofO ho
  obtain ⟨a5, c5, rfl⟩ := recsR_form fv
  have hz3 : w.heap.size + 2 ≤ w2.heap.size := qz1
  have px0 := cell_keep hb qx0
  have px1 := cell_keep hb qx1
  have pr0 := cell_keep hb qr0
  have pr1 := cell_keep hb qr1
  have pr2 := cell_keep hb qr2
  have prf := (boxKeep ⟨qrf, qz1⟩ hb).1
  have pz0 := Nat.lt_of_lt_of_le qz0 hb.size
  have pz1 := Nat.lt_of_lt_of_le qz1 hb.size
  clear qx0 qx1 qr0 qr1 qr2 qrf qz0 qz1
  have ho2 := recsRR.base (base' := w.heap.size + 2) ho hz3
  rw [← HD.out] at ho2 ⊢
  obtain ⟨D, hD⟩ : ∃ D, readD d = D := ⟨_, rfl⟩
  have ED : Hid (readD d = D) := hD
  rw [hD] at ho2 ⊢
  clear hD
  clear ho hb hB2 fv HD V3
  go_wp2
  refine bodyPost_ret (v := .agg #[.int .i64 D.code, .int .i64 D.used, .slice a5 D.records.length c5]) ?_ rfl ⟨_, F4, rfl, ?_, by (repeat (first | exact Below.refl _ _ | assumption | refine Below.drew ?_ | refine balloc ?_ _ | refine bset ?_ (by simp; omega) _ | refine bset ?_ (by simp) _ | refine bstep ?_ (by assumption)))⟩
  · simp [results, Tryz.results55, go_sem, pr0, pr1, pr2]
  · rw [ED.out]
    exact recsRR.base (base := w.heap.size + 2) (recsRR.set (recsRR.set (recsRR.set ho2 _ (by simp)) _ (by simp)) _ (by simp)) (by omega)
end Go.Proofs.YtecfelacdapdgaaGreat

/-
  Rows of values that hold memory: one put in between or behind them, one put in another's place.
-/
set_option linter.unusedVariables false
namespace Go.Proofs.YtecfelacdapdgaaGreat
open Go.RowKit

def insF {β : Type} (f : Nat → β) (i : Nat) (x : β) : Nat → β := fun k => if k < i then f k else if k = i then x else f (k - 1)
theorem insF_lt {β : Type} (f : Nat → β) {i k : Nat} (x : β) (h : k < i) : insF f i x k = f k := by simp [insF, h]
theorem insF_at {β : Type} (f : Nat → β) (i : Nat) (x : β) : insF f i x i = x := by simp [insF]
theorem insF_gt {β : Type} (f : Nat → β) {i k : Nat} (x : β) (h : i < k) : insF f i x k = f (k - 1) := by
  unfold insF
  rw [if_neg (by omega), if_neg (by omega)]
theorem getD_ins {α : Type} [Inhabited α] (xs : List α) (x : α) (i k : Nat) (hi : i ≤ xs.length) : (xs.take i ++ [x] ++ xs.drop i).getD k default = insF (fun k => xs.getD k default) i x k := by
  have hl : (xs.take i).length = i := by rw [List.length_take]; omega
  simp only [List.getD_eq_getElem?_getD]
  rw [List.append_assoc]
  rcases Nat.lt_trichotomy k i with h | h | h
  · rw [insF_lt _ _ h, List.getElem?_append_left (by omega), List.getElem?_take, if_pos h]
  · subst h
    rw [insF_at, List.getElem?_append_right (by omega), hl]
    simp
  · rw [insF_gt _ _ h, List.getElem?_append_right (by omega), hl, List.getElem?_append_right (by simp; omega), List.getElem?_drop]
    congr 2
    simp
    omega
theorem PO.ins {α : Type} {R : Rep α} {e size : Nat} {lv : Value → List Value} {W W' : World} {base : Nat} {v v' : Value} {n i : Nat} {d : Nat → α} {cs : List Value} {us : Nat → Value} {fs : Nat → Nat → Prop} {u : Value} {x : α} {Fu : Nat → Prop}
    (h : PO R e size lv W base v n n d cs us fs) (hi : i ≤ n) (hu : R.O W base Fu u x) (hl : (lv u).length = size) (hd : ∀ j, j < n → ∀ b, fs j b → ¬ Fu b) (hvu : ∀ b, Fu b → v.ownBlock ≠ some b)
    (hr : W'.ownsRow base e size v' (n + 1) (cs.take (i * size) ++ lv u ++ cs.drop (i * size))) (hm : Mod (fun b => v.ownBlock = some b) W W') (hv : ∀ b, v'.ownBlock = some b → v.ownBlock = some b ∨ W.heap.size ≤ b) :
    PO R e size lv W' base v' (n + 1) (n + 1) (insF d i x) (cs.take (i * size) ++ lv u ++ cs.drop (i * size)) (insF us i u) (insF fs i Fu) := by
  have hcl : cs.length = n * size := h.row.1
  have him : i * size ≤ n * size := Nat.mul_le_mul_right _ hi
  have hold : ∀ b, b < W.heap.size → v.ownBlock ≠ some b → v'.ownBlock ≠ some b := fun b hb hn e => by
    rcases hv b e with h1 | h1
    · exact hn h1
    · omega
  have hel : ∀ j, j < n → R.O W' base (fs j) (us j) (d j) := fun j hj => R.mod (h.el j hj) hm (fun b hb => h.out j hj b hb)
  refine ⟨hr, fun j hj => ?_, fun j hj => ?_, fun j hj o ho => ?_, fun j hj b hb => ?_, fun j k hj hk hjk b h1 h2 => ?_⟩
  · rcases Nat.lt_trichotomy j i with h1 | h1 | h1
    · rw [insF_lt _ _ h1, insF_lt _ _ h1, insF_lt _ _ h1]; exact hel j (by omega)
    · subst h1; rw [insF_at, insF_at, insF_at]; exact R.mod hu hm (fun b hb => hvu b hb)
    · rw [insF_gt _ _ h1, insF_gt _ _ h1, insF_gt _ _ h1]; exact hel (j - 1) (by omega)
  · rcases Nat.lt_trichotomy j i with h1 | h1 | h1
    · rw [insF_lt _ _ h1]; exact h.ln j (by omega)
    · subst h1; rw [insF_at]; exact hl
    · rw [insF_gt _ _ h1]; exact h.ln (j - 1) (by omega)
  · have ht : (cs.take (i * size)).length = i * size := by rw [List.length_take]; omega
    rw [List.append_assoc]
    rcases Nat.lt_trichotomy j i with h1 | h1 | h1
    · have hlt : j * size + o < i * size := by
        have : (j + 1) * size ≤ i * size := Nat.mul_le_mul_right _ h1
        rw [Nat.succ_mul] at this
        omega
      rw [insF_lt _ _ h1, List.getElem?_append_left (by omega), List.getElem?_take, if_pos hlt]
      exact h.cell j (by omega) o ho
    · subst h1
      rw [insF_at, List.getElem?_append_right (by omega), ht, show j * size + o - j * size = o by omega, List.getElem?_append_left (by omega)]
    · obtain ⟨q, rfl⟩ : ∃ q, j = q + 1 := ⟨j - 1, by omega⟩
      have hge : i * size ≤ q * size := Nat.mul_le_mul_right _ (by omega)
      have e1 : (q + 1) * size = q * size + size := Nat.succ_mul _ _
      rw [insF_gt _ _ h1, Nat.add_sub_cancel, List.getElem?_append_right (by omega), ht, List.getElem?_append_right (by omega), hl, List.getElem?_drop, e1, show i * size + (q * size + size + o - i * size - size) = q * size + o by omega]
      exact h.cell q (by omega) o ho
  · rcases Nat.lt_trichotomy j i with h1 | h1 | h1
    · rw [insF_lt _ _ h1] at hb; exact hold b (R.rng (h.el j (by omega)) b hb).2 (h.out j (by omega) b hb)
    · subst h1; rw [insF_at] at hb; exact hold b (R.rng hu b hb).2 (hvu b hb)
    · rw [insF_gt _ _ h1] at hb; exact hold b (R.rng (h.el (j - 1) (by omega)) b hb).2 (h.out (j - 1) (by omega) b hb)
  · have key : ∀ j, j < n + 1 → insF fs i Fu j b → (j = i ∧ Fu b) ∨ ∃ q, q < n ∧ fs q b ∧ ((j < i ∧ q = j) ∨ (i < j ∧ q + 1 = j)) := fun j hj hb => by
      rcases Nat.lt_trichotomy j i with h1 | h1 | h1
      · rw [insF_lt _ _ h1] at hb; exact .inr ⟨j, by omega, hb, .inl ⟨h1, rfl⟩⟩
      · subst h1; rw [insF_at] at hb; exact .inl ⟨rfl, hb⟩
      · rw [insF_gt _ _ h1] at hb; exact .inr ⟨j - 1, by omega, hb, .inr ⟨h1, by omega⟩⟩
    rcases key j hj h1 with ⟨e1, f1⟩ | ⟨q, hq, f1, g1⟩
    · rcases key k hk h2 with ⟨e2, f2⟩ | ⟨q2, hq2, f2, g2⟩
      · omega
      · exact hd q2 hq2 b f2 f1
    · rcases key k hk h2 with ⟨e2, f2⟩ | ⟨q2, hq2, f2, g2⟩
      · exact hd q hq b f1 f2
      · exact h.sep q q2 hq hq2 (by omega) b f1 f2
theorem NO.ins {α : Type} [Inhabited α] {R : Rep α} {e size : Nat} {lv : Value → List Value} {W W' : World} {base : Nat} {v v' : Value} {i : Nat} {xs : List α} {cs : List Value} {us : Nat → Value} {fs : Nat → Nat → Prop} {u : Value} {x : α} {F Fu : Nat → Prop}
    (h : PO R e size lv W base v xs.length xs.length (fun i => xs.getD i default) cs us fs) (hF : ∀ b, F b ↔ (v.ownBlock = some b ∨ ∃ i, i < xs.length ∧ fs i b)) (hi : i ≤ xs.length) (hu : R.O W base Fu u x) (hl : (lv u).length = size) (hd : ∀ b, F b → ¬ Fu b)
    (hr : W'.ownsRow base e size v' (xs.length + 1) (cs.take (i * size) ++ lv u ++ cs.drop (i * size))) (hm : Mod (fun b => v.ownBlock = some b) W W') (hv : ∀ b, v'.ownBlock = some b → v.ownBlock = some b ∨ W.heap.size ≤ b) :
    ∃ F', NO R e size lv W' base F' v' (xs.take i ++ [x] ++ xs.drop i) ∧ ∀ b, F' b → F b ∨ Fu b ∨ W.heap.size ≤ b := by
  have hp := h.ins hi hu hl (fun j hj b hb => hd b ((hF b).2 (.inr ⟨j, hj, hb⟩))) (fun b hb e => hd b ((hF b).2 (.inl e)) hb) hr hm hv
  have hlen : (xs.take i ++ [x] ++ xs.drop i).length = xs.length + 1 := by simp only [List.length_append, List.length_take, List.length_drop, List.length_cons, List.length_nil]; omega
  refine ⟨fun b => v'.ownBlock = some b ∨ ∃ k, k < xs.length + 1 ∧ insF fs i Fu k b, ⟨cs.take (i * size) ++ lv u ++ cs.drop (i * size), insF us i u, insF fs i Fu, ?_, fun b => by rw [hlen]⟩, fun b hb => ?_⟩
  · rw [hlen]
    exact hp.cast (fun k hk => getD_ins xs x i k hi)
  · rcases hb with hb | ⟨k, hk, hb⟩
    · rcases hv b hb with h1 | h1
      · exact .inl ((hF b).2 (.inl h1))
      · exact .inr (.inr h1)
    · rcases Nat.lt_trichotomy k i with h1 | h1 | h1
      · rw [insF_lt _ _ h1] at hb; exact .inl ((hF b).2 (.inr ⟨k, by omega, hb⟩))
      · subst h1; rw [insF_at] at hb; exact .inr (.inl hb)
      · rw [insF_gt _ _ h1] at hb; exact .inl ((hF b).2 (.inr ⟨k - 1, by omega, hb⟩))
theorem PO.putN {α : Type} {R : Rep α} {e size : Nat} {lv : Value → List Value} {W W' : World} {base : Nat} {v : Value} {n i : Nat} {d : Nat → α} {cs cs' : List Value} {us : Nat → Value} {fs : Nat → Nat → Prop} {u : Value} {x : α} {Fu : Nat → Prop}
    (h : PO R e size lv W base v n n d cs us fs) (hi : i < n) (hu : R.O W base Fu u x) (hl : (lv u).length = size) (hd : ∀ j, j < n → ∀ b, fs j b → ¬ Fu b) (hvu : ∀ b, Fu b → v.ownBlock ≠ some b)
    (hr : W'.ownsRow base e size v n cs') (hm : Mod (fun b => v.ownBlock = some b) W W') (hold : ∀ j, j < n → j ≠ i → ∀ o, o < size → cs'[j * size + o]? = cs[j * size + o]?) (hnew : ∀ o, o < size → cs'[i * size + o]? = (lv u)[o]?) :
    PO R e size lv W' base v n n (upd d i x) cs' (upd us i u) (upd fs i Fu) := by
  refine ⟨hr, fun j hj => ?_, fun j hj => ?_, fun j hj o ho => ?_, fun j hj b hb => ?_, fun j k hj hk hjk b h1 h2 => ?_⟩
  · by_cases e1 : j = i
    · subst e1; rw [upd_at, upd_at, upd_at]; exact R.mod hu hm (fun b hb => hvu b hb)
    · rw [upd_ne _ _ e1, upd_ne _ _ e1, upd_ne _ _ e1]; exact R.mod (h.el j hj) hm (fun b hb => h.out j hj b hb)
  · by_cases e1 : j = i
    · subst e1; rw [upd_at]; exact hl
    · rw [upd_ne _ _ e1]; exact h.ln j hj
  · by_cases e1 : j = i
    · subst e1; rw [upd_at]; exact hnew o ho
    · rw [upd_ne _ _ e1, hold j hj e1 o ho]; exact h.cell j hj o ho
  · by_cases e1 : j = i
    · subst e1; rw [upd_at] at hb; exact hvu b hb
    · rw [upd_ne _ _ e1] at hb; exact h.out j hj b hb
  · by_cases e1 : j = i
    · subst e1
      rw [upd_at] at h1
      rw [upd_ne _ _ (Ne.symm hjk)] at h2
      exact hd k hk b h2 h1
    · rw [upd_ne _ _ e1] at h1
      by_cases e2 : k = i
      · subst e2; rw [upd_at] at h2; exact hd j hj b h1 h2
      · rw [upd_ne _ _ e2] at h2; exact h.sep j k hj hk hjk b h1 h2
theorem getD_set {α : Type} [Inhabited α] (xs : List α) (x : α) (i k : Nat) (hi : i < xs.length) : (xs.set i x).getD k default = upd (fun k => xs.getD k default) i x k := by
  simp only [List.getD_eq_getElem?_getD, List.getElem?_set]
  by_cases e : i = k
  · subst e
    rw [if_pos rfl, if_pos hi, upd_at]
    rfl
  · rw [if_neg e, upd_ne _ _ (Ne.symm e)]
theorem NO.put {α : Type} [Inhabited α] {R : Rep α} {e size : Nat} {lv : Value → List Value} {W W' : World} {base : Nat} {v : Value} {i : Nat} {xs : List α} {cs cs' : List Value} {us : Nat → Value} {fs : Nat → Nat → Prop} {u : Value} {x : α} {F Fu : Nat → Prop}
    (h : PO R e size lv W base v xs.length xs.length (fun i => xs.getD i default) cs us fs) (hF : ∀ b, F b ↔ (v.ownBlock = some b ∨ ∃ i, i < xs.length ∧ fs i b)) (hi : i < xs.length) (hu : R.O W base Fu u x) (hl : (lv u).length = size) (hd : ∀ b, F b → ¬ Fu b)
    (hr : W'.ownsRow base e size v xs.length cs') (hm : Mod (fun b => v.ownBlock = some b) W W') (hold : ∀ j, j < xs.length → j ≠ i → ∀ o, o < size → cs'[j * size + o]? = cs[j * size + o]?) (hnew : ∀ o, o < size → cs'[i * size + o]? = (lv u)[o]?) :
    ∃ F', NO R e size lv W' base F' v (xs.set i x) ∧ ∀ b, F' b → F b ∨ Fu b := by
  have hp := h.putN hi hu hl (fun j hj b hb => hd b ((hF b).2 (.inr ⟨j, hj, hb⟩))) (fun b hb e => hd b ((hF b).2 (.inl e)) hb) hr hm hold hnew
  have hlen : (xs.set i x).length = xs.length := by simp
  refine ⟨fun b => v.ownBlock = some b ∨ ∃ k, k < xs.length ∧ upd fs i Fu k b, ⟨cs', upd us i u, upd fs i Fu, ?_, fun b => by rw [hlen]⟩, fun b hb => ?_⟩
  · rw [hlen]
    exact hp.cast (fun k hk => getD_set xs x i k hi)
  · rcases hb with hb | ⟨k, hk, hb⟩
    · exact .inl ((hF b).2 (.inl hb))
    · by_cases e1 : k = i
      · subst e1; rw [upd_at] at hb; exact .inr hb
      · rw [upd_ne _ _ e1] at hb; exact .inl ((hF b).2 (.inr ⟨k, hk, hb⟩))
theorem run_appN (w : World) {α : Type} [Inhabited α] {R : Rep α} {lv : Value → List Value} (t ty e : TypeId) (i : TypeInfo) (z : Value) (size bytes : Nat) (ht : Tryz.prog.underlying t = some (.slice e)) (hi : Tryz.prog.info? e = some i) (hz : i.zero = some z)
    (hsize : i.size = size) (hby : i.bytes = bytes) (hzs : z.cells.size = size) (hsz : 0 < size) (hb1 : bytes ≤ 1000)
    (base : Nat) {F Fu : Nat → Prop} (v u : Value) (xs : List α) (x : α) (hown : NO R e size lv w base F v xs) (hu : R.O w base Fu u x) (hl : (lv u).length = size) (h1 : ∀ y ∈ lv u, y.oneCell' = true) (hd : ∀ b, F b → ¬ Fu b)
    (ad : Addr) (c : Nat) (hc : ∀ j y, (lv u)[j]? = some y → w.cell? (ad.add j) = some y) (hn : xs.length ≤ 2000000) (hbase : base ≤ w.heap.size) :
    ∃ v' w' F', (Builtin.append_ #[t, t] ty #[v, .slice (some ad) 1 c]).run Tryz.prog w = .ok v' w' ∧ NO R e size lv w' base F' v' (xs ++ [x]) ∧ w.grownBy w' v.ownBlock ∧ (∀ b, F' b → F b ∨ Fu b ∨ w.heap.size ≤ b) := by
  obtain ⟨cs, us, fs, hp, hF⟩ := hown
  obtain ⟨v', w', hr, h2, h3, h4, h5⟩ := run_append_own_at (P := Tryz.prog) w base t ty e i z size bytes ht hi hz hsize hby hzs hsz v xs.length cs hp.row ad 1 c (lv u) (by omega) hc h1 (by unfold maxLen; omega) (Nat.le_trans (Nat.mul_le_mul_left _ hb1) (by omega)) hbase
  have hcl : cs.length = xs.length * size := hp.row.1
  have e1 : cs.take (xs.length * size) ++ lv u ++ cs.drop (xs.length * size) = cs ++ lv u := by
    rw [List.take_of_length_le (by omega), List.drop_of_length_le (by omega), List.append_nil]
  obtain ⟨F', h6, h7⟩ := NO.ins hp hF (Nat.le_refl _) hu hl hd (by rw [e1]; exact h2) (Mod.of_grown h3) (fun b hb => by
    rcases h5 with h5 | h5
    · exact .inl (h5 ▸ hb)
    · rw [h5] at hb
      simp only [Option.some.injEq] at hb
      exact .inr (by omega))
  rw [List.take_of_length_le (Nat.le_refl _), List.drop_of_length_le (Nat.le_refl _), List.append_nil] at h6
  exact ⟨v', w', F', hr, h6, h3, h7⟩
theorem wpl_appR {w : World} {ops : Array Oper} {rest : List Oper} {o : Oper} {a : Act} {Q : Exit → Act → World → Prop} (hgd : o.guard = none) (s x : Operand) (t t' : TypeId)
    (ho : o.op = .call { callee := .builtin .append, args := #[s, x], argTypes := #[t, t'] }) (v u : Value) (hs : a.eval s = v) (hx : a.eval x = u) {v' : Value} {w' : World}
    (hr : (Builtin.append_ #[t, t'] o.type #[v, u]).run Tryz.prog w = .ok v' w') (h : wpList Tryz.prog ops Q rest (a.put o.dst v') w') : wpList Tryz.prog ops Q (o :: rest) a w := by
  refine wpList_plain hgd fun K hK => ?_
  unfold Oper.wp execOp
  simp only [ho, resolve, invoke, builtin, Sem.run_bind, Sem.run_pure, Result.andThen_ok, List.map_toArray, List.map_cons, List.map_nil, hs, hx, hr]
  exact hK _ _ h
theorem wpl_appN (w : World) {α : Type} [Inhabited α] {R : Rep α} {lv : Value → List Value} {ops : Array Oper} {rest : List Oper} {o : Oper} {a : Act} {Q : Exit → Act → World → Prop} (hgd : o.guard = none) (s x : Operand) (t : TypeId)
    (ho : o.op = .call { callee := .builtin .append, args := #[s, x], argTypes := #[t, t] }) (e : TypeId) (i : TypeInfo) (z : Value) (size bytes : Nat) (ht : Tryz.prog.underlying t = some (.slice e)) (hi : Tryz.prog.info? e = some i) (hz : i.zero = some z)
    (hsize : i.size = size) (hby : i.bytes = bytes) (hzs : z.cells.size = size) (hsz : 0 < size) (hb1 : bytes ≤ 1000)
    (base : Nat) (F Fu : Nat → Prop) (v u : Value) (xs : List α) (y : α) (ad : Addr) (c : Nat) (hs : a.eval s = v) (hx : a.eval x = .slice (some ad) 1 c) (hown : NO R e size lv w base F v xs) (hu : R.O w base Fu u y) (hl : (lv u).length = size) (h1 : ∀ y ∈ lv u, y.oneCell' = true) (hd : ∀ b, F b → ¬ Fu b)
    (hc : ∀ j y, (lv u)[j]? = some y → w.cell? (ad.add j) = some y) (hn : xs.length ≤ 2000000) (hbase : base ≤ w.heap.size)
    (h : ∀ v' w' F', NO R e size lv w' base F' v' (xs ++ [y]) → Below base w w' → (∀ b, F' b → F b ∨ Fu b ∨ w.heap.size ≤ b) → wpList Tryz.prog ops Q rest (a.put o.dst v') w') : wpList Tryz.prog ops Q (o :: rest) a w := by
  obtain ⟨v', w', F', hr, h2, h3, h4⟩ := run_appN w t o.type e i z size bytes ht hi hz hsize hby hzs hsz hb1 base v u xs y hown hu hl h1 hd ad c hc hn hbase
  obtain ⟨cs, us, fs, hp, hF⟩ := hown
  exact wpl_appR hgd s x t t ho v _ hs hx hr (h v' w' F' h2 ((Below.refl base w).grown h3 hbase (fun b e => (hp.row.lt b e).1)) h4)
end Go.Proofs.YtecfelacdapdgaaGreat

/-
  The events of a log, in mathematics; events appended.
-/
set_option linter.unusedSimpArgs false
set_option linter.unusedVariables false
namespace Go.Proofs.YtecfelacdapdgaaGreat
open Go.RowKit
set_option linter.unusedSectionVars false
variable [DecidableEq Leg] [Inhabited Leg] [DecidableEq Cont] [Inhabited Cont] [DecidableEq Evt] [Inhabited Evt] [DecidableEq EvtsR] [Inhabited EvtsR] [DecidableEq EvtR] [Inhabited EvtR] [DecidableEq BytesR] [Inhabited BytesR] [DecidableEq ContR] [Inhabited ContR] [DecidableEq Logg] [Inhabited Logg] [DecidableEq LoggR] [Inhabited LoggR] [DecidableEq RecsR] [Inhabited RecsR]
attribute [local go_sem ↓] Go.wp_at_zero Go.wp_at_succ

def evL (rs : List (List Byte)) : List Evt := rs.map (fun r => (unpE r).evt)
def allE (rs : List (List Byte)) : Bool := rs.all (fun r => decide ((unpE r).code = 0))
def evsR (xs : List Byte) : EvtsR :=
  if allE (recL xs) = true ∧ recU xs = xs.length then (if (recL xs).length ≤ 60 then ⟨0, evL (recL xs)⟩ else ⟨2, []⟩) else ⟨5, []⟩
def evsD (d : Logg) : EvtsR := if logF d = 0 then evsR (d.synced ++ d.loose) else ⟨2, []⟩
theorem allE_of {rs : List (List Byte)} (h : ∀ j, j < rs.length → (unpE (rs.getD j default)).code = 0) : allE rs = true := by
  unfold allE
  rw [List.all_eq_true]
  intro r hr
  obtain ⟨i, hi, rfl⟩ := List.getElem_of_mem hr
  have := h i hi
  simp only [List.getD, List.getElem?_eq_getElem hi, Option.getD_some] at this
  exact decide_eq_true this
theorem allE_at {rs : List (List Byte)} {k : Nat} (hk : k < rs.length) (h : ¬ (unpE (rs.getD k default)).code = 0) : allE rs = false := by
  cases ha : allE rs
  · rfl
  · exfalso
    unfold allE at ha
    rw [List.all_eq_true] at ha
    have := ha (rs.getD k default) (by simp [List.getD, hk])
    exact h (of_decide_eq_true this)
theorem evL_snoc {rs : List (List Byte)} {k : Nat} (hk : k < rs.length) : evL (rs.take (k + 1)) = evL (rs.take k) ++ [(unpE (rs.getD k default)).evt] := by
  unfold evL
  rw [List.take_add_one, List.map_append]
  congr 1
  simp [List.getD, hk]
theorem evL_len (rs : List (List Byte)) : (evL rs).length = rs.length := by unfold evL; rw [List.length_map]
theorem evsR_bad {xs : List Byte} (h : allE (recL xs) = false ∨ ¬ recU xs = xs.length) : evsR xs = ⟨5, []⟩ := by
  unfold evsR
  rw [if_neg]
  rintro ⟨h1, h2⟩
  rcases h with h | h
  · rw [h1] at h; cases h
  · exact h h2
theorem evsR_many {xs : List Byte} (h : allE (recL xs) = true) (h1 : recU xs = xs.length) (h2 : ¬ (recL xs).length ≤ 60) : evsR xs = ⟨2, []⟩ := by unfold evsR; rw [if_pos ⟨h, h1⟩, if_neg h2]
theorem evsR_ok {xs : List Byte} (h : allE (recL xs) = true) (h1 : recU xs = xs.length) (h2 : (recL xs).length ≤ 60) : evsR xs = ⟨0, evL (recL xs)⟩ := by unfold evsR; rw [if_pos ⟨h, h1⟩, if_pos h2]
theorem unpE_evt_wt (r : List Byte) : wtEvt (unpE r).evt ≤ 8 := unpE_wt r
theorem evL_wt {rs : List (List Byte)} (h : rs.length ≤ 60) : wtEvts (evL rs) ≤ 600 := by
  have H : ∀ (k : Nat) (es : List Evt), k ≤ es.length → (∀ e ∈ es, wtEvt e ≤ 8) → cntTo wtEvt k es ≤ 8 * k := by
    intro k
    induction k with
    | zero => intro es _ _; simp [cntTo]
    | succ k ih =>
      intro es hk he
      cases es with
      | nil => simp at hk
      | cons e es =>
        have h1 := he e (by simp)
        have h2 := ih es (by simpa using hk) (fun x hx => he x (by simp [hx]))
        simp only [cntTo]
        omega
  have h1 := H (evL rs).length (evL rs) (Nat.le_refl _) (fun e he => by
    unfold evL at he
    obtain ⟨r, _, rfl⟩ := List.mem_map.1 he
    exact unpE_evt_wt r)
  unfold wtEvts wtL
  rw [evL_len] at h1 ⊢
  omega
theorem evsD_wt (d : Logg) : wtEvtsR (evsD d) ≤ 600 := by
  have h0 : ∀ c, wtEvtsR ⟨c, []⟩ = 0 := fun _ => rfl
  unfold evsD evsR
  split
  · split
    · split
      · rename_i h; exact evL_wt h
      · rw [h0]; omega
    · rw [h0]; omega
  · rw [h0]; omega
theorem recL_len14 (xs : List Byte) : (recL xs).length ≤ xs.length := by
  have H : ∀ n (xs : List Byte), xs.length ≤ n → (recL xs).length ≤ xs.length := by
    intro n
    induction n with
    | zero => intro xs h; rw [recL_end (frameSz_nil (by omega))]; simp
    | succ n ih =>
      intro xs h
      by_cases hz : frameSz xs = 0
      · rw [recL_end hz]; simp
      · have hp := frameSz_pos hz
        have := ih (xs.drop (frameSz xs)) (by rw [List.length_drop]; omega)
        rw [recL_step hz]
        rw [List.length_drop] at this
        simp only [List.length_cons]
        omega
  exact H _ xs (Nat.le_refl _)
theorem wpl_appEv (w : World) {ops : Array Oper} {rest : List Oper} {o : Oper} {a : Act} {Q : Exit → Act → World → Prop} (hgd : o.guard = none) (s x : Operand)
    (ho : o.op = .call { callee := .builtin .append, args := #[s, x], argTypes := #[59, 59] })
    (base : Nat) (F Fu : Nat → Prop) (v : Value) (xs : List Evt) (y : Evt) (g : Nat) (p : Option Addr) (q : Nat) (hs : a.eval s = v) (hx : a.eval x = .slice (some ⟨g, 0, none⟩) 1 1) (hown : evtsR.O w base F v xs) (hu : evtR.O w base Fu (.agg #[.bool y.vote, .int .i64 y.con.id, .slice p y.con.legs.length q, .int .i64 y.out]) y) (hd : ∀ b, F b → ¬ Fu b)
    (hc : w.cell? ⟨g, 0, none⟩ = some (.bool y.vote) ∧ w.cell? ⟨g, 1, none⟩ = some (.int .i64 y.con.id) ∧ w.cell? ⟨g, 2, none⟩ = some (.slice p y.con.legs.length q) ∧ w.cell? ⟨g, 3, none⟩ = some (.int .i64 y.out)) (hn : xs.length ≤ 2000000) (hbase : base ≤ w.heap.size)
    (h : ∀ v' w' F', evtsR.O w' base F' v' (xs ++ [y]) → Below base w w' → (∀ b, F' b → F b ∨ Fu b ∨ w.heap.size ≤ b) → wpList Tryz.prog ops Q rest (a.put o.dst v') w') : wpList Tryz.prog ops Q (o :: rest) a w := by
  obtain ⟨i0, hi, hz0, hz1, hz2⟩ := info_parts infoEvts
  exact wpl_appN w hgd s x 59 ho 33 i0 _ 4 48 Tryz.underlying59 hi hz0 hz1 hz2 rfl (by decide) (by decide) base F Fu v _ xs y ⟨g, 0, none⟩ 1 hs hx hown (evtf_O.2 hu) rfl (fun z hz => by
    simp [lvEvt, one] at hz
    rcases hz with rfl | rfl | rfl | rfl <;> rfl) hd (fun j y' hj => by
    match j, hj with
    | 0, hj => simp [lvEvt, one] at hj; subst hj; simpa [Addr.add] using hc.1
    | 1, hj => simp [lvEvt, one] at hj; subst hj; simpa [Addr.add] using hc.2.1
    | 2, hj => simp [lvEvt, one] at hj; subst hj; simpa [Addr.add] using hc.2.2.1
    | 3, hj => simp [lvEvt, one] at hj; subst hj; simpa [Addr.add] using hc.2.2.2
    | j + 4, hj => simp [lvEvt, one] at hj) hn hbase h
theorem evts_nil (w : World) (base : Nat) : evtsR.O w base (fun _ => False) (.slice none 0 0) [] :=
  ⟨[], fun _ => default, fun _ _ => False, ⟨World.ownsRow_nil _ _ _ _, fun i hi => absurd hi (Nat.not_lt_zero _), fun i hi => absurd hi (Nat.not_lt_zero _), fun i hi => absurd hi (Nat.not_lt_zero _), fun i hi => absurd hi (Nat.not_lt_zero _), fun i j hi => absurd hi (Nat.not_lt_zero _)⟩, fun b => ⟨fun h => h.elim, fun h => h.elim (fun h => by simp [Value.ownBlock] at h) (fun ⟨i, hi, _⟩ => absurd hi (Nat.not_lt_zero _))⟩⟩
theorem evts_lit (Y : World) (base : Nat) (hb : base ≤ Y.heap.size) : evtsR.O (Y.alloc (.cells #[] 33)) base (fun b => b = Y.heap.size) (.slice (some ⟨Y.heap.size, 0, none⟩) 0 0) [] :=
  ⟨[], fun _ => default, fun _ _ => False, ⟨World.ownsRow_lit (base := base) (e := 33) (size := 4) Y #[] 0 hb (by decide) rfl, fun i hi => absurd hi (Nat.not_lt_zero _), fun i hi => absurd hi (Nat.not_lt_zero _), fun i hi => absurd hi (Nat.not_lt_zero _), fun i hi => absurd hi (Nat.not_lt_zero _), fun i j hi => absurd hi (Nat.not_lt_zero _)⟩, fun b => ⟨fun h => .inl (by simp [Value.ownBlock, h]), fun h => h.elim (fun h => by simpa [Value.ownBlock, eq_comm] using h) (fun ⟨i, hi, _⟩ => absurd hi (Nat.not_lt_zero _))⟩⟩
theorem recs_at {w : World} {v : Value} {rs : List (List Byte)} (h : bytessR.V w v rs) : ∃ a c, v = .slice a rs.length c ∧ rs.length ≤ c ∧ c ≤ maxLen ∧ ∀ k, k < rs.length → ∃ b o u, a = some ⟨b, o, none⟩ ∧ w.cell? ⟨b, o + k, none⟩ = some u ∧ bytesR.V w u (rs.getD k default) := by
  obtain ⟨a, c, rfl, h1, h2, h3⟩ := h
  refine ⟨a, c, rfl, h1, h2, fun k hk => ?_⟩
  obtain ⟨b, o, u, e, _, p, hv⟩ := h3 k hk
  exact ⟨b, o, u, e, cells1 p, hv⟩
end Go.Proofs.YtecfelacdapdgaaGreat

