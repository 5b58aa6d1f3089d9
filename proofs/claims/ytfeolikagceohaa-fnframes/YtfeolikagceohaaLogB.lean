/-
  A log: the program's parts.
-/
import Derived.Test.YtfeolikagceohaaLogA
namespace Go.Proofs.Ytfeolikagceohaa
open Go.RowKit
set_option linter.unusedSectionVars false
variable [DecidableEq Logg] [Inhabited Logg] [DecidableEq LoggR] [Inhabited LoggR] [DecidableEq BytesR] [Inhabited BytesR] [DecidableEq RecsR] [Inhabited RecsR] [DecidableEq Leg] [Inhabited Leg]
set_option linter.unusedSimpArgs false
attribute [local go_sem ↓] Go.wp_at_zero Go.wp_at_succ

theorem cutHL {a : Option Addr} {n cap : Nat} (h : Int) (h0 : 0 ≤ h) (h2 : h ≤ n) (hn : n ≤ cap) :
    ∃ a' c', (∀ w : World, (Instr.sliceAt 58 (.slice a n cap) none (some (.int .i64 h)) none).run Try.prog w = .ok (.slice a' h.toNat c') w) ∧
      ∀ (w : World) (xs : List Byte), xs.length = n → BytesV w (.slice a n cap) xs → BytesV w (.slice a' h.toNat c') (xs.take h.toNat) := by
  have und : Try.prog.underlying 58 = some (.slice (Try.prog.elem 58)) := by kernel_rfl
  have cel : (sizeOf (Try.prog.elem 58)).run Try.prog = fun w => .ok 1 w := by
    have he : Try.prog.elem 58 = 5 := by kernel_rfl
    obtain ⟨i0, hi, hz0, hz1, hz2⟩ := info_parts infoByte
    funext w
    simp [sizeOf, typeInfo, he, hi, hz1]
  refine ⟨if cap = 0 then a else a.map (·.add (0 * 1)), cap - 0, fun w => ?_, fun w xs e hx => ?_⟩
  · rw [run_sliceAt_slice (h := und), run_slice_h (ht := und) (h0 := h0) (h2 := by omega), cel]
    simp only [Result.andThen, sliced]
    rw [Nat.sub_zero]
  · subst e
    have := bytes_cut hx 0 h.toNat (by omega) (by omega)
    rw [Nat.sub_zero, List.drop_zero] at this
    exact this

set_option maxHeartbeats 2000000 in
theorem readerOf_any (x : Value) (d : Logg) (w : World) (hx : loggR.V w x d) (hn : wtLogg d ≤ 1048576) :
    Calls Try.prog 34 #[x] w fun e w' => ∃ v F, e = .returned (.agg #[v, .int .i64 d.synced.length]) ∧ bytesR.O w' w.heap.size F v (d.synced ++ d.loose) ∧ Below w.heap.size w w' := by
  have hX := hx
  obtain ⟨u1, u2, rfl, h1, h2⟩ := hx
  obtain ⟨a1, c1, rfl⟩ := bytes_form h1
  obtain ⟨a2, c2, rfl⟩ := bytes_form h2
  unfold wtLogg wtBytes at hn
  have u1 : IntKind.i64.wrap (d.synced.length : Int) = d.synced.length := by rw [IntKind.wrap_i64]; omega
  have HL : Hid ([d.synced, d.loose].flatten = d.synced ++ d.loose) := by simp [Hid]
  go_enter Try.func34, Try.ntmps34
  go_wp2
  refine wp_region_noPanic ?_
  refine region_upto (fun w' => Below w.heap.size w w' ∧ w'.cell? ⟨w.heap.size, 0, none⟩ = some (.slice a1 d.synced.length c1) ∧ w'.cell? ⟨w.heap.size, 1, none⟩ = some (.slice a2 d.loose.length c2)) 10 (by kernel_rfl) ⟨by (repeat (first | exact Below.refl _ _ | assumption | refine Below.drew ?_ | refine balloc ?_ _ | refine bset ?_ (by simp; omega) _ | refine bset ?_ (by simp) _ | refine bstep ?_ (by assumption))), by simp [go_sem], by simp [go_sem]⟩ (fun hS => ?_)
  refine upto_take (i := 0) (v := ?_) rfl (by kernel_rfl) (by kernel_rfl) (by kernel_rfl) (by kernel_rfl) (fun _ _ _ h => h) (by rfl) hS ?_ ?_
  rotate_left
  · intro wS hSw
    try dsimp only at hSw
    first | (go_simp; done) | (go_simp; with_reducible rfl)
  try simp only [Act.put, List.getElem_toArray, List.getElem_cons_zero, List.getElem_cons_succ, List.setIfInBounds_toArray, List.set_cons_zero, List.set_cons_succ]
  refine upto_take (i := 1) (v := ?_) rfl (by kernel_rfl) (by kernel_rfl) (by kernel_rfl) (by kernel_rfl) (fun _ _ _ h => h) (by rfl) hS ?_ ?_
  rotate_left
  · intro wS hSw
    try dsimp only at hSw
    first | (go_simp; done) | (go_simp; with_reducible rfl)
  try simp only [Act.put, List.getElem_toArray, List.getElem_cons_zero, List.getElem_cons_succ, List.setIfInBounds_toArray, List.set_cons_zero, List.set_cons_succ]
  refine upto_take (i := 2) (v := ?_) rfl (by kernel_rfl) (by kernel_rfl) (by kernel_rfl) (by kernel_rfl) (fun _ _ _ h => h) (by rfl) hS ?_ ?_
  rotate_left
  · intro wS hSw
    try dsimp only at hSw
    first | (go_simp; done) | (go_simp; with_reducible rfl)
  try simp only [Act.put, List.getElem_toArray, List.getElem_cons_zero, List.getElem_cons_succ, List.setIfInBounds_toArray, List.set_cons_zero, List.set_cons_succ]
  refine upto_take (i := 3) (v := ?_) rfl (by kernel_rfl) (by kernel_rfl) (by kernel_rfl) (by kernel_rfl) (fun _ _ _ h => h) (by rfl) hS ?_ ?_
  rotate_left
  · intro wS hSw
    try dsimp only at hSw
    first | (go_simp; done) | (go_simp; with_reducible rfl)
  try simp only [Act.put, List.getElem_toArray, List.getElem_cons_zero, List.getElem_cons_succ, List.setIfInBounds_toArray, List.set_cons_zero, List.set_cons_succ]
  refine upto_take (i := 6) (v := ?_) rfl (by kernel_rfl) (by kernel_rfl) (by kernel_rfl) (by kernel_rfl) (fun _ _ _ h => h) (by rfl) hS ?_ ?_
  rotate_left
  · intro wS hSw
    try dsimp only at hSw
    first | (go_simp; done) | (go_simp; with_reducible rfl)
  try simp only [Act.put, List.getElem_toArray, List.getElem_cons_zero, List.getElem_cons_succ, List.setIfInBounds_toArray, List.set_cons_zero, List.set_cons_succ]
  refine upto_take (i := 7) (v := ?_) rfl (by kernel_rfl) (by kernel_rfl) (by kernel_rfl) (by kernel_rfl) (fun _ _ _ h => h) (by rfl) hS ?_ ?_
  rotate_left
  · intro wS hSw
    try dsimp only at hSw
    first | (go_simp; done) | (go_simp; with_reducible rfl)
  try simp only [Act.put, List.getElem_toArray, List.getElem_cons_zero, List.getElem_cons_succ, List.setIfInBounds_toArray, List.set_cons_zero, List.set_cons_succ]
  refine upto_take (i := 8) (v := ?_) rfl (by kernel_rfl) (by kernel_rfl) (by kernel_rfl) (by kernel_rfl) (fun _ _ _ h => h) (by rfl) hS ?_ ?_
  rotate_left
  · intro wS hSw
    try dsimp only at hSw
    first | (go_simp; done) | (go_simp; with_reducible rfl)
  try simp only [Act.put, List.getElem_toArray, List.getElem_cons_zero, List.getElem_cons_succ, List.setIfInBounds_toArray, List.set_cons_zero, List.set_cons_succ]
  refine upto_step (i := 4) (by kernel_rfl) rfl ?_
  intro K hK
  go_simp
  refine hK _ _ (fun _ => ⟨by (repeat (first | exact Below.refl _ _ | assumption | refine Below.drew ?_ | refine balloc ?_ _ | refine bset ?_ (by simp; omega) _ | refine bset ?_ (by simp) _ | refine bstep ?_ (by assumption))), by simp [go_sem], by simp [go_sem]⟩) ?_
  clear hK K
  try simp only [Act.put, List.getElem_toArray, List.getElem_cons_zero, List.getElem_cons_succ, List.setIfInBounds_toArray, List.set_cons_zero, List.set_cons_succ]
  refine upto_step (i := 5) (by kernel_rfl) rfl ?_
  intro K hK
  go_simp
  refine (joined_any _ [d.synced, d.loose] _ (bytess2 (g := w.heap.size + 1 + 1) (by simp [go_sem]; done) (by simp [go_sem]; done) (bytesR.below h1 (by (repeat (first | exact Below.refl _ _ | assumption | refine Below.drew ?_ | refine balloc ?_ _ | refine bset ?_ (by simp; omega) _ | refine bset ?_ (by simp) _ | refine bstep ?_ (by assumption))))) (bytesR.below h2 (by (repeat (first | exact Below.refl _ _ | assumption | refine Below.drew ?_ | refine balloc ?_ _ | refine bset ?_ (by simp; omega) _ | refine bset ?_ (by simp) _ | refine bstep ?_ (by assumption)))))) (by rw [HL.out]; simp; omega)).mono ?_
  rintro e w3 ⟨v, F, rfl, o3, hb3⟩
  rw [HL.out] at o3
  obtain ⟨a3, c3, rfl⟩ := bytes_form (bytesR.ofO o3)
  have hS3 : (fun w' => Below w.heap.size w w' ∧ w'.cell? ⟨w.heap.size, 0, none⟩ = some (.slice a1 d.synced.length c1) ∧ w'.cell? ⟨w.heap.size, 1, none⟩ = some (.slice a2 d.loose.length c2)) w3 := ⟨by (repeat (first | exact Below.refl _ _ | assumption | refine Below.drew ?_ | refine balloc ?_ _ | refine bset ?_ (by simp; omega) _ | refine bset ?_ (by simp) _ | refine bstep ?_ (by assumption))), cell_keep hb3 (by simp [go_sem]), cell_keep hb3 (by simp [go_sem])⟩
  have r0 : w3.cell? ⟨w.heap.size + 1, 0, none⟩ = some (.slice none 0 0) := cell_keep hb3 (by simp [go_sem])
  have r1 : w3.cell? ⟨w.heap.size + 1, 1, none⟩ = some (.int .i64 0) := cell_keep hb3 (by simp [go_sem])
  have rf : ∀ o, w3.frozen? ⟨w.heap.size + 1, o, none⟩ = false := fun o => by rw [(bcell hb3).2 _ _ (by simp)]; simp [go_sem]
  have hB3 : Below w.heap.size w w3 := hS3.1
  have HO : Hid (bytesR.O w3 (w.heap.size + 2) F (.slice a3 (d.synced ++ d.loose).length c3) (d.synced ++ d.loose)) := bytesR.base o3 (by simp)
  refine hK _ _ (fun _ => hS3) ?_
  clear hK K o3 hb3
  try simp only [Act.put, List.getElem_toArray, List.getElem_cons_zero, List.getElem_cons_succ, List.setIfInBounds_toArray, List.set_cons_zero, List.set_cons_succ]
  refine upto_take (i := 9) (v := ?_) rfl (by kernel_rfl) (by kernel_rfl) (by kernel_rfl) (by kernel_rfl) (fun _ _ _ h => h) (by rfl) hS3 ?_ ?_
  rotate_left
  · intro wS hSw
    try dsimp only at hSw
    first | (go_simp; done) | (go_simp; with_reducible rfl)
  try simp only [Act.put, List.getElem_toArray, List.getElem_cons_zero, List.getElem_cons_succ, List.setIfInBounds_toArray, List.set_cons_zero, List.set_cons_succ]
  refine upto_step (i := 10) (by kernel_rfl) rfl ?_
  intro K hK
  go_simp
  refine hK _ _ (fun h => absurd rfl h) ?_
  clear hK K
  refine upto_done (by kernel_rfl) ?_
  refine NoPanic.normal ?_
  clear hS hS3
  go_wp2
  have ho : bytesR.O w3 (w.heap.size + 2) F (.slice a3 (d.synced.length + d.loose.length) c3) (d.synced ++ d.loose) := by have h := HO.out; simpa using h
  refine bodyPost_ret (v := .agg #[.slice a3 (d.synced.length + d.loose.length) c3, .int .i64 d.synced.length]) ?_ rfl ⟨_, F, rfl, bytesR.base (bytesR.set (bytesR.set ho _ (by simp)) _ (by simp)) (by omega), by (repeat (first | exact Below.refl _ _ | assumption | refine Below.drew ?_ | refine balloc ?_ _ | refine bset ?_ (by simp; omega) _ | refine bset ?_ (by simp) _ | refine bstep ?_ (by assumption)))⟩
  simp [results, Try.results34, go_sem, r0, r1]

set_option maxHeartbeats 1000000 in
theorem records_any (x : Value) (xs : List Byte) (w : World) (hx : bytesR.V w x xs) :
    Calls Try.prog 39 #[x] w fun e w' => ∃ v F, e = .returned v ∧ recsRR.O w' w.heap.size F v (recsD xs) ∧ Below w.heap.size w w' := by
  have hX := hx
  obtain ⟨ax, cx, rfl⟩ := bytes_form hx
  go_enter Try.func39, Try.ntmps39
  go_wp2_with fail
  refine (implUnframe_u _ xs _ (bytesR.below hX (by (repeat (first | exact Below.refl _ _ | assumption | refine Below.drew ?_ | refine balloc ?_ _ | refine bset ?_ (by simp; omega) _ | refine bset ?_ (by simp) _ | refine bstep ?_ (by assumption)))))).mono ?_
  rintro e w1 ⟨v, F, rfl, ho, hb⟩
  have fv := recsRR.ofO ho
  obtain ⟨a1, c1, rfl⟩ := recsR_form fv
  obtain ⟨c2, f2⟩ := bcell hb
  have ho' := recsRR.base (base' := w.heap.size + 1) ho (by simp)
  go_wp2
  refine bodyPost_ret (v := .agg #[.int .i64 (recsD xs).code, .int .i64 (recsD xs).used, .slice a1 (recsD xs).records.length c1]) ?_ rfl ⟨_, F, rfl, recsRR.base (recsRR.set (recsRR.set (recsRR.set ho' _ (by simp)) _ (by simp)) _ (by simp)) (by omega), by (repeat (first | exact Below.refl _ _ | assumption | refine Below.drew ?_ | refine balloc ?_ _ | refine bset ?_ (by simp; omega) _ | refine bset ?_ (by simp) _ | refine bstep ?_ (by assumption)))⟩
  simp [results, Try.results39, go_sem, c2]

set_option maxHeartbeats 1000000 in
theorem syncedUpTo_any (x : Value) (xs : List Byte) (k : Nat) (w : World) (hx : bytesR.V w x xs) (hk : k ≤ xs.length) (hn : xs.length ≤ 1048576) :
    Calls Try.prog 35 #[x, .int .i64 k] w fun e w' => ∃ v F, e = .returned v ∧ loggR.O w' w.heap.size F v ⟨xs.take k, []⟩ ∧ Below w.heap.size w w' := by
  have hX := hx
  obtain ⟨ax, cx, rfl⟩ := bytes_form hx
  have hcap : xs.length ≤ cx := by
    obtain ⟨_, _, e, h, _⟩ := hx
    simp only [Value.slice.injEq, true_and] at e
    omega
  obtain ⟨a3, c3, run3, V3⟩ := cutHL (a := ax) (n := xs.length) (cap := cx) (k : Int) (by omega) (by omega) hcap
  have ek : (k : Int).toNat = k := by omega
  have V1 : bytesR.V w (.slice a3 k c3) (xs.take k) := by have h := V3 _ xs rfl hX; rw [ek] at h; exact h
  rw [ek] at run3
  have hl : (xs.take k).length = k := by rw [List.length_take]; omega
  generalize xs.take k = ys at *
  clear V3 ek hcap
  have HL : Hid ([ys].flatten = ys) := by simp [Hid]
  go_enter Try.func35, Try.ntmps35
  go_wp2_with fail
  refine (joined_any _ [ys] _ (bytess1 (g := w.heap.size + 1) (by simp [go_sem]; done) (bytesR.below V1 (by (repeat (first | exact Below.refl _ _ | assumption | refine Below.drew ?_ | refine balloc ?_ _ | refine bset ?_ (by simp; omega) _ | refine bset ?_ (by simp) _ | refine bstep ?_ (by assumption)))))) (by rw [HL.out]; omega)).mono ?_
  rintro e w3 ⟨v, F, rfl, o3, hb3⟩
  rw [HL.out] at o3
  obtain ⟨a4, c4, rfl⟩ := bytes_form (bytesR.ofO o3)
  have r0 : w3.cell? ⟨w.heap.size, 0, none⟩ = some (.slice none 0 0) := cell_keep hb3 (by simp [go_sem])
  have r1 : w3.cell? ⟨w.heap.size, 1, none⟩ = some (.slice none 0 0) := cell_keep hb3 (by simp [go_sem])
  have rf : ∀ o, w3.frozen? ⟨w.heap.size, o, none⟩ = false := fun o => by rw [(bcell hb3).2 _ _ (by simp; omega)]; simp [go_sem]
  have hB3 : Below w.heap.size w w3 := by (repeat (first | exact Below.refl _ _ | assumption | refine Below.drew ?_ | refine balloc ?_ _ | refine bset ?_ (by simp; omega) _ | refine bset ?_ (by simp) _ | refine bstep ?_ (by assumption)))
  have HO : Hid (bytesR.O w3 (w.heap.size + 1) F (.slice a4 ys.length c4) ys) := bytesR.base o3 (by simp)
  clear o3 hb3 V1 run3 hX hx
  go_wp2
  have ho := HO.out
  rw [hl] at ho
  refine bodyPost_ret (v := .agg #[.slice a4 k c4, .slice none 0 0]) ?_ rfl ⟨_, F, rfl, logg_one (bytesR.base (bytesR.set (bytesR.set ho _ (by simp)) _ (by simp)) (by omega)), by (repeat (first | exact Below.refl _ _ | assumption | refine Below.drew ?_ | refine balloc ?_ _ | refine bset ?_ (by simp; omega) _ | refine bset ?_ (by simp) _ | refine bstep ?_ (by assumption)))⟩
  simp [results, Try.results35, go_sem, r0, r1, hl]

end Go.Proofs.Ytfeolikagceohaa
