import Derived.Test.YtdfapehonegeeaaGreatPrnWriteBatchLaw28
import Derived.Test.YtdfapehonegeeaaGreatPrnWriteBatchLaw18
import Derived.Test.YtdfapehonegeeaaGreatPrnWriteBatchLaw22

/-
  WriteBatch: the program's side.
-/
namespace Go.Proofs.YtdfapehonegeeaaGreat
open Go.RowKit Go.Shelf
set_option linter.unusedSectionVars false
variable [DecidableEq Wri] [Inhabited Wri] [DecidableEq BytesR] [Inhabited BytesR] [DecidableEq Rw] [Inhabited Rw] [DecidableEq TabR] [Inhabited TabR] [DecidableEq Logg] [Inhabited Logg] [DecidableEq Engn] [Inhabited Engn] [DecidableEq LoggR] [Inhabited LoggR] [DecidableEq RecsR] [Inhabited RecsR] [DecidableEq Leg] [Inhabited Leg] [DecidableEq EngR] [Inhabited EngR]
set_option linter.unusedVariables false
set_option linter.unusedSimpArgs false
attribute [local go_sem ↓] Go.wp_at_zero Go.wp_at_succ
attribute [local go_sem] run_store_func

def wbaG (d : Engn) (ws : List Wri) : Nat → (Nat → Value) → Nat → Nat → World → Prop
  | 5, y, lo, hi, w => (∃ a c, y 24 = .slice a (packB d.next ws).length c) ∧ ∃ F, bytesR.O w lo F (y 24) (packB d.next ws) ∧ ∀ b, F b → b < hi
  | 6, y, lo, hi, w => (∃ a c b k, y 25 = .agg #[.int .i64 (appD d.log (packB d.next ws)).code, .slice a (appD d.log (packB d.next ws)).log.synced.length c, .slice b (appD d.log (packB d.next ws)).log.loose.length k]) ∧ ∃ F, loggRR.O w lo F (y 25) (appD d.log (packB d.next ws)) ∧ ∀ b, F b → b < hi
  | 7, y, lo, hi, w => y 8 = .pointer (some ⟨lo, 0, none⟩) ∧ lo < hi ∧ (w.cell? ⟨lo, 0, none⟩ = some (.int .i64 0) ∧ w.cell? ⟨lo, 1, none⟩ = some (.slice none 0 0) ∧ w.cell? ⟨lo, 2, none⟩ = some (.slice none 0 0)) ∧ ∀ o, w.frozen? ⟨lo, o, none⟩ = false
  | _, _, _, _, _ => True
def wbmC : Nat → List Nat
  | 9 => [4, 8]
  | 15 => [14]
  | _ => []
def rowF (q : Nat) : Value := .func (.func 130) #[] #[.pointer (some ⟨q + 1, 0, none⟩), .pointer (some ⟨q, 0, none⟩)]
def wbmG (sv lv : Value) (nx : Int) (bm : List Rw) (base : Nat) : Nat → (Nat → Value) → (Nat → Prop) → World → Prop
  | 2, y, F, _ => y 39 = .agg #[sv, cmpF] ∧ ∀ b, ¬ F b
  | 3, y, F, _ => y 40 = .agg #[sv, cmpF] ∧ ∀ b, ¬ F b
  | 4, y, F, w => ∃ lo, y 41 = valF lo ∧ w.cell? ⟨lo, 0, none⟩ = some sv ∧ ∀ b, F b ↔ b = lo
  | 8, y, F, w => ∃ lo, y 45 = rowF lo ∧ w.cell? ⟨lo, 0, none⟩ = some (.int .i64 nx) ∧ w.cell? ⟨lo + 1, 0, none⟩ = some lv ∧ ∀ b, F b ↔ (b = lo ∨ b = lo + 1)
  | 9, y, F, w => ∃ lo p q, y 46 = .slice (some ⟨lo, 0, none⟩) 2 2 ∧ w.cell? ⟨lo, 0, none⟩ = some (valF p) ∧ w.cell? ⟨lo, 1, none⟩ = some (rowF q) ∧ w.cell? ⟨p, 0, none⟩ = some sv ∧ w.cell? ⟨q, 0, none⟩ = some (.int .i64 nx) ∧ w.cell? ⟨q + 1, 0, none⟩ = some lv ∧ ∀ b, F b ↔ (b = lo ∨ b = p ∨ b = q ∨ b = q + 1)
  | 10, y, F, w => ∃ a n c f, y 47 = .tuple #[.agg #[.slice a n c, cmpF], .bool f] ∧ (f = true → n = bm.length ∧ w.ownsRow base 76 4 (.slice a n c) bm.length (rwsC bm) ∧ bm.length ≤ 200) ∧ (f = false → 200 < bm.length) ∧ ∀ b, F b ↔ (f = true ∧ (Value.slice a n c).ownBlock = some b)
  | 11, y, F, _ => (∃ a n c f, y 36 = .tuple #[.agg #[.slice a n c, cmpF], .bool f]) ∧ y 36 = y 47 ∧ ∀ b, ¬ F b
  | 12, y, F, _ => (∃ a n c f, y 48 = .agg #[.slice a n c, cmpF] ∧ y 36 = .tuple #[.agg #[.slice a n c, cmpF], .bool f]) ∧ ∀ b, ¬ F b
  | 13, y, F, _ => (∃ x f, y 49 = .bool f ∧ y 36 = .tuple #[x, .bool f]) ∧ ∀ b, ¬ F b
  | 14, y, F, w => ∃ lo, y 9 = .pointer (some ⟨lo, 0, none⟩) ∧ w.cell? ⟨lo, 0, none⟩ = some (.slice none 0 0) ∧ w.cell? ⟨lo, 1, none⟩ = some .nilFunc ∧ (∀ o, w.frozen? ⟨lo, o, none⟩ = false) ∧ ∀ b, F b ↔ b = lo
  | 15, y, F, w => ∃ lo a n c, y 9 = .pointer (some ⟨lo, 0, none⟩) ∧ y 48 = .agg #[.slice a n c, cmpF] ∧ w.cell? ⟨lo, 0, none⟩ = some (.slice a n c) ∧ ∀ b, F b ↔ b = lo
  | _, _, _, _ => True
set_option maxRecDepth 20000 in
set_option maxHeartbeats 3000000 in
theorem implWb_u (x : Value) (d : Engn) (y : Value) (ws : List Wri) (s : Bool) (w : World) (hx : engnR.V w x d) (hn : wtEngn d ≤ 1048576) (hy : wrisR.V w y ws) :
    Calls Tryz.prog 18 #[x, y, .bool s] w fun e w' => ∃ v F, e = .returned v ∧ engRR.O w' w.heap.size F v (writeE d ws s) ∧ Below w.heap.size w w' := by
  have HX : Hid (engnR.V w x d) := hx
  obtain ⟨a1, a2, a3, a4, c1, c2, c3, c4, rfl⟩ := engn_form hx
  have HWT : Hid (wtEngn d ≤ 1048576) := hn
  clear hx
  go_enter Tryz.func18, Tryz.ntmps18
  go_wp2_with fail
  refine (batchFault_any _ _ d ws _ (engnR.below HX.out (by (repeat (first | exact Below.refl _ _ | assumption | refine Below.drew ?_ | refine balloc ?_ _ | refine bset ?_ (by simp; omega) _ | refine bset ?_ (by simp) _ | refine bstep ?_ (by assumption))))) hn (wrisR.below hy (by (repeat (first | exact Below.refl _ _ | assumption | refine Below.drew ?_ | refine balloc ?_ _ | refine bset ?_ (by simp; omega) _ | refine bset ?_ (by simp) _ | refine bstep ?_ (by assumption)))))).mono ?_
  rintro e w1 ⟨rfl, b1⟩
  have r0 : w1.cell? ⟨w.heap.size, 0, none⟩ = some (.slice a1 d.log.synced.length c1) := cell_keep b1 (by simp [go_sem])
  have r1 : w1.cell? ⟨w.heap.size, 1, none⟩ = some (.slice a2 d.log.loose.length c2) := cell_keep b1 (by simp [go_sem])
  have r2 : w1.cell? ⟨w.heap.size, 2, none⟩ = some (.slice a3 d.mem.length c3) := cell_keep b1 (by simp [go_sem])
  have r3 : w1.cell? ⟨w.heap.size, 3, none⟩ = some (.slice a4 d.tables.length c4) := cell_keep b1 (by simp [go_sem])
  have r4 : w1.cell? ⟨w.heap.size, 4, none⟩ = some (.int .i64 d.next) := cell_keep b1 (by simp [go_sem])
  have q0 : w1.cell? ⟨w.heap.size + 1, 0, none⟩ = some (.int .i64 0) := cell_keep b1 (by simp [go_sem])
  have q1 : w1.cell? ⟨w.heap.size + 1, 1, none⟩ = some (.int .i64 0) := cell_keep b1 (by simp [go_sem])
  have q2 : w1.cell? ⟨w.heap.size + 1, 2, none⟩ = some (.slice none 0 0) := cell_keep b1 (by simp [go_sem])
  have q3 : w1.cell? ⟨w.heap.size + 1, 3, none⟩ = some (.slice none 0 0) := cell_keep b1 (by simp [go_sem])
  have q4 : w1.cell? ⟨w.heap.size + 1, 4, none⟩ = some (.slice none 0 0) := cell_keep b1 (by simp [go_sem])
  have q5 : w1.cell? ⟨w.heap.size + 1, 5, none⟩ = some (.slice none 0 0) := cell_keep b1 (by simp [go_sem])
  have q6 : w1.cell? ⟨w.heap.size + 1, 6, none⟩ = some (.int .i64 0) := cell_keep b1 (by simp [go_sem])
  obtain ⟨qf, qz⟩ : (∀ o, w1.frozen? ⟨w.heap.size + 1, o, none⟩ = false) ∧ w.heap.size + 1 < w1.heap.size := by
    have h := b1.size
    simp only [World.size_alloc] at h
    exact ⟨fun o => by rw [(bcell b1).2 _ _ (by simp)]; simp [go_sem], by omega⟩
  have hB1 : Below w.heap.size w w1 := by (repeat (first | exact Below.refl _ _ | assumption | refine Below.drew ?_ | refine balloc ?_ _ | refine bset ?_ (by simp; omega) _ | refine bset ?_ (by simp) _ | refine bstep ?_ (by assumption)))
  clear b1 hn
  by_cases h0 : batF d ws = 0
  rotate_left
  · have HE : Hid (writeE d ws s = codeE (batF d ws)) := writeE_c h0
    have hc : (batF d ws == 0) = false := by simpa using h0
    generalize batF d ws = c at *
    go_wp2
    refine bodyPost_ret (v := .agg #[.int .i64 c, .int .i64 0, .slice none 0 0, .slice none 0 0, .slice none 0 0, .slice none 0 0, .int .i64 0]) (by simp [results, Tryz.results18, go_sem, q0, q1, q2, q3, q4, q5, q6, qf, qz]) rfl ?_
    rw [HE.out]
    first | exact ⟨_, rfl, ⟨_, engR_nil _ _ c 0 0⟩, by (repeat (first | refine bset ?_ (by simp; omega) _ | refine bset ?_ (by simp) _ | refine balloc ?_ _ | assumption))⟩ | exact ⟨_, _, rfl, engR_nil _ _ c 0 0, by (repeat (first | refine bset ?_ (by simp; omega) _ | refine bset ?_ (by simp) _ | refine balloc ?_ _ | assumption))⟩
  rw [h0]
  have HBF : Hid (batF d ws = 0) := h0
  clear h0
  have HY : Hid (wrisR.V w y ws) := hy
  have HBO : Hid (BaOk d ws) := bat_ok HBF.out
  obtain ⟨ay, cy, rfl⟩ := wris_form hy
  clear hy
  have HVL : Hid (loggR.V w (.agg #[.slice a1 d.log.synced.length c1, .slice a2 d.log.loose.length c2]) d.log) := by
    obtain ⟨u1, u2, u3, u4, e, h, _, _⟩ := HX.out
    simp only [Value.agg.injEq, Array.mk.injEq, List.cons.injEq, and_true] at e
    obtain ⟨rfl, rfl, _, _⟩ := e
    exact h
  have HVM : Hid (RowsV w (.slice a3 d.mem.length c3) d.mem) := by
    obtain ⟨u1, u2, u3, u4, e, _, h, _⟩ := HX.out
    simp only [Value.agg.injEq, Array.mk.injEq, List.cons.injEq, and_true] at e
    obtain ⟨_, _, rfl, _⟩ := e
    exact h.1
  have hwl : wtLogg d.log ≤ 1048576 := by have := HWT.out; unfold wtEngn at this; omega
  go_wp2
  refine wp_region_noPanic ?_
  refine region_upto (fun w' => w'.cell? ⟨w.heap.size, 0, none⟩ = some (.slice a1 d.log.synced.length c1) ∧ w'.cell? ⟨w.heap.size, 1, none⟩ = some (.slice a2 d.log.loose.length c2) ∧ w'.cell? ⟨w.heap.size, 2, none⟩ = some (.slice a3 d.mem.length c3) ∧ w'.cell? ⟨w.heap.size, 3, none⟩ = some (.slice a4 d.tables.length c4) ∧ w'.cell? ⟨w.heap.size, 4, none⟩ = some (.int .i64 d.next)) 8 (by kernel_rfl) ⟨cell_keep (by (repeat (first | exact Below.refl _ _ | assumption | refine Below.drew ?_ | refine balloc ?_ _ | refine bset ?_ (by simp; omega) _ | refine bset ?_ (by simp) _ | refine bstep ?_ (by assumption)))) r0, cell_keep (by (repeat (first | exact Below.refl _ _ | assumption | refine Below.drew ?_ | refine balloc ?_ _ | refine bset ?_ (by simp; omega) _ | refine bset ?_ (by simp) _ | refine bstep ?_ (by assumption)))) r1, cell_keep (by (repeat (first | exact Below.refl _ _ | assumption | refine Below.drew ?_ | refine balloc ?_ _ | refine bset ?_ (by simp; omega) _ | refine bset ?_ (by simp) _ | refine bstep ?_ (by assumption)))) r2, cell_keep (by (repeat (first | exact Below.refl _ _ | assumption | refine Below.drew ?_ | refine balloc ?_ _ | refine bset ?_ (by simp; omega) _ | refine bset ?_ (by simp) _ | refine bstep ?_ (by assumption)))) r3, cell_keep (by (repeat (first | exact Below.refl _ _ | assumption | refine Below.drew ?_ | refine balloc ?_ _ | refine bset ?_ (by simp; omega) _ | refine bset ?_ (by simp) _ | refine bstep ?_ (by assumption)))) r4⟩ (fun hS => ?_)
  refine upto_take (i := 0) (v := ?_) rfl (by kernel_rfl) (by kernel_rfl) (by kernel_rfl) (by kernel_rfl) (fun _ _ _ h => h) (by rfl) hS ?_ ?_
  rotate_left
  · intro wS hSw
    try dsimp only at hSw
    first | (go_simp; done) | (go_simp; with_reducible rfl)
  try simp only [Act.put, List.getElem_toArray, List.getElem_cons_zero, List.getElem_cons_succ, List.setIfInBounds_toArray, List.set_cons_zero, List.set_cons_succ]
  refine upto_take (i := 1) (v := ?_) rfl (by kernel_rfl) (by kernel_rfl) (by kernel_rfl) (by kernel_rfl) (fun _ _ _ h => h) (by rfl) hS ?_ ?_
  rotate_left
  · intro wS hSw
    try dsimp only at hSw
    first | (go_simp; done) | (go_simp; with_reducible rfl)
  try simp only [Act.put, List.getElem_toArray, List.getElem_cons_zero, List.getElem_cons_succ, List.setIfInBounds_toArray, List.set_cons_zero, List.set_cons_succ]
  refine upto_take (i := 2) (v := ?_) rfl (by kernel_rfl) (by kernel_rfl) (by kernel_rfl) (by kernel_rfl) (fun _ _ _ h => h) (by rfl) hS ?_ ?_
  rotate_left
  · intro wS hSw
    try dsimp only at hSw
    first | (go_simp; done) | (go_simp; with_reducible rfl)
  try simp only [Act.put, List.getElem_toArray, List.getElem_cons_zero, List.getElem_cons_succ, List.setIfInBounds_toArray, List.set_cons_zero, List.set_cons_succ]
  refine upto_take (i := 3) (v := ?_) rfl (by kernel_rfl) (by kernel_rfl) (by kernel_rfl) (by kernel_rfl) (fun _ _ _ h => h) (by rfl) hS ?_ ?_
  rotate_left
  · intro wS hSw
    try dsimp only at hSw
    first | (go_simp; done) | (go_simp; with_reducible rfl)
  try simp only [Act.put, List.getElem_toArray, List.getElem_cons_zero, List.getElem_cons_succ, List.setIfInBounds_toArray, List.set_cons_zero, List.set_cons_succ]
  refine upto_take (i := 4) (v := ?_) rfl (by kernel_rfl) (by kernel_rfl) (by kernel_rfl) (by kernel_rfl) (fun _ _ _ h => h) (by rfl) hS ?_ ?_
  rotate_left
  · intro wS hSw
    try dsimp only at hSw
    first | (go_simp; done) | (go_simp; with_reducible rfl)
  try simp only [Act.put, List.getElem_toArray, List.getElem_cons_zero, List.getElem_cons_succ, List.setIfInBounds_toArray, List.set_cons_zero, List.set_cons_succ]
  have hb0 : Below w1.heap.size w1 w1.drew := Below.drew (Below.refl _ _)
  generalize w1.drew = W0 at *
  have hz10 := hb0.size
  refine upto_stable' [(5, 24), (6, 25), (7, 8)] (wbaG d ws) (by kernel_rfl) hS (fun W W' h hb => ⟨cell_keep hb h.1, cell_keep hb h.2.1, cell_keep hb h.2.2.1, cell_keep hb h.2.2.2.1, cell_keep hb h.2.2.2.2⟩) ?_ ?_ ?_
  · intro p hp
    simp only [List.mem_cons, List.not_mem_nil, or_false] at hp
    rcases hp with rfl | rfl | rfl
    · intro y y' lo hi W W' h hi' hb e _
      simp only [wbaG] at h ⊢
      rw [e]
      obtain ⟨h1, F, h2, h3⟩ := h
      exact ⟨h1, F, bytesR.keep h2 hb, h3⟩
    · intro y y' lo hi W W' h hi' hb e _
      simp only [wbaG] at h ⊢
      rw [e]
      obtain ⟨h1, F, h2, h3⟩ := h
      exact ⟨h1, F, loggRR.keep h2 hb, h3⟩
    · intro y y' lo hi W W' h hi' hb e _
      simp only [wbaG] at h ⊢
      rw [e]
      obtain ⟨h1, h2, ⟨g0, g1, g2⟩, h4⟩ := h
      exact ⟨h1, h2, ⟨cell_keep hb g0, cell_keep hb g1, cell_keep hb g2⟩, fun o => by rw [(bcell hb).2 _ _ (Nat.lt_of_lt_of_le h2 hi'.2.2)]; exact h4 o⟩
  · intro p hp
    simp only [List.mem_cons, List.not_mem_nil, or_false] at hp
    rcases hp with rfl | rfl | rfl
    all_goals
      refine ⟨_, rfl, rfl, ?_⟩
      intro y W lo hi hSW hBW hd hap K hK
      clear hap
    · clear hd
      refine ⟨?_⟩
      simp only [over, Act.put, List.getElem_toArray, List.getElem_cons_zero, List.getElem_cons_succ, List.map_cons, List.map_nil, List.foldl_cons, List.foldl_nil, List.setIfInBounds_toArray, List.set_cons_zero, List.set_cons_succ] at hK ⊢
      go_simp
      refine (bytesOf_any d.next _ ws _ (wrisR.below HY.out (bstep hB1 (bstep hb0 hBW))) HBO.out.w8).mono ?_
      rintro e w' ⟨v, F, rfl, o3, hb3⟩
      refine hK _ _ hb3 ?_
      simp only [wbaG, updV]
      obtain ⟨av, cv, hv⟩ := bytes_form (bytesR.ofO o3)
      exact ⟨⟨av, cv, by simpa using hv⟩, F, by simpa using o3, fun b hb => (bytesR.rng o3 b hb).2⟩
    · have g0 := (hd (5, 24) (by simp) (by kernel_rfl)).2
      clear hd
      simp only [wbaG] at g0
      obtain ⟨⟨ab, cb, eb⟩, Fb, ob, -⟩ := g0
      rw [eb] at ob
      refine ⟨?_⟩
      simp only [over, Act.put, List.getElem_toArray, List.getElem_cons_zero, List.getElem_cons_succ, List.map_cons, List.map_nil, List.foldl_cons, List.foldl_nil, List.setIfInBounds_toArray, List.set_cons_zero, List.set_cons_succ] at hK ⊢
      simp only [eb] at hK ⊢
      go_simp
      refine (implApp_u _ d.log _ (packB d.next ws) _ (loggR.below HVL.out (bstep hB1 (bstep hb0 hBW))) hwl (bytesR.ofO ob)).mono ?_
      rintro e w' ⟨v, F, rfl, o3, hb3⟩
      refine hK _ _ hb3 ?_
      simp only [wbaG, updV]
      obtain ⟨av, bv, cv, kv, hv⟩ := loggR_form (loggRR.ofO o3)
      exact ⟨⟨av, cv, bv, kv, by simpa using hv⟩, F, by simpa using o3, fun b hb => (loggRR.rng o3 b hb).2⟩
    · clear hd
      refine ⟨?_⟩
      simp only [over, Act.put, List.getElem_toArray, List.getElem_cons_zero, List.getElem_cons_succ, List.map_cons, List.map_nil, List.foldl_cons, List.foldl_nil, List.setIfInBounds_toArray, List.set_cons_zero, List.set_cons_succ] at hK ⊢
      go_simp
      refine hK _ _ (by (repeat (first | exact Below.refl _ _ | assumption | refine Below.drew ?_ | refine balloc ?_ _ | refine bset ?_ (by simp; omega) _ | refine bset ?_ (by simp) _ | refine bstep ?_ (by assumption)))) ?_
      simp only [wbaG, updV]
      exact ⟨rfl, by simp, ⟨by simp [go_sem], by simp [go_sem], by simp [go_sem]⟩, fun o => by simp [go_sem]⟩
  · refine ⟨_, rfl, ?_⟩
    intro y W lo hi hSW hBW hd hap K hK
    have g6 := hd (6, 25) (by simp)
    have g7 := hd (7, 8) (by simp)
    clear hd
    have p1 := hap (6, 25) (by simp) (7, 8) (by simp) (by simp)
    clear hap
    simp only [wbaG, Apart, InB] at g6 g7 p1
    obtain ⟨b6, ⟨a, c, b, k, e25⟩, F6, o6, f6⟩ := g6
    obtain ⟨b7, e8, hlh, ⟨k0, k1, k2⟩, kf⟩ := g7
    rw [e25] at o6
    have hl6 : ∀ b, F6 b → lo 6 ≤ b := fun b hb => (loggRR.rng o6 b hb).1
    have hnL : ¬ F6 (lo 7) := fun q => by have := f6 _ q; have := hl6 _ q; omega
    have hBlo : W0.heap.size ≤ lo 7 := b7.1
    have hBhi : lo 7 < W.heap.size := by omega
    replace o6 := loggRR.base (base' := W0.heap.size) o6 (by omega)
    generalize lo 7 = BL at *
    have HDC : Hid ((appD d.log (packB d.next ws)).code = 0 → logF (batL d ws) = 0 ∧ appD d.log (packB d.next ws) = ⟨0, batL d ws⟩) := fun h => by
      have h1 := HBO.out.ap
      by_cases h2 : logF (batL d ws) = 0
      · rw [if_pos h2] at h1; exact ⟨h2, h1⟩
      · rw [if_neg h2] at h1; rw [h1] at h; cases h
    have HDN : Hid (¬ (appD d.log (packB d.next ws)).code = 0 → (appD d.log (packB d.next ws)).code = 2 ∧ writeE d ws s = codeE 2) := fun h => by
      have h1 := HBO.out.ap
      by_cases h2 : logF (batL d ws) = 0
      · rw [if_pos h2] at h1; rw [h1] at h; exact absurd rfl h
      · rw [if_neg h2] at h1; rw [h1]; exact ⟨rfl, writeE_l HBF.out h2⟩
    generalize appD d.log (packB d.next ws) = D at *
    refine ⟨?_⟩
    simp only [over, Act.put, List.getElem_toArray, List.getElem_cons_zero, List.getElem_cons_succ, List.map_cons, List.map_nil, List.foldl_cons, List.foldl_nil, List.setIfInBounds_toArray, List.set_cons_zero, List.set_cons_succ]
    simp only [e25, e8]
    clear e25 e8 b6 b7 p1 f6 hl6 hSW hS
    generalize hdc : D.code = dc at *
    have HD0 : Hid (D.code = dc) := hdc
    clear hdc
    generalize hd1 : D.log.synced.length = l1 at *
    generalize hd2 : D.log.loose.length = l2 at *
    have HD1 : Hid (D.log.synced.length = l1) := hd1
    have HD2 : Hid (D.log.loose.length = l2) := hd2
    clear hd1 hd2
    go_simp
    refine hK _ _ ?_
    clear hK K hlh
    refine NoPanic.normal ?_
    have hM5 : Mod (fun b => b = BL) W (((W.setCell ⟨BL, 0, none⟩ (.int .i64 dc)).setCell ⟨BL, 1, none⟩ (.slice a l1 c)).setCell ⟨BL, 2, none⟩ (.slice b l2 k)) := ((Mod.of_set W ⟨BL, 0, none⟩ _).trans (Mod.of_set _ ⟨BL, 1, none⟩ _)).trans (Mod.of_set _ ⟨BL, 2, none⟩ _)
    have n0 : (((W.setCell ⟨BL, 0, none⟩ (.int .i64 dc)).setCell ⟨BL, 1, none⟩ (.slice a l1 c)).setCell ⟨BL, 2, none⟩ (.slice b l2 k)).cell? ⟨BL, 0, none⟩ = some (.int .i64 dc) := by simp [go_sem, k0, k1, k2, kf]
    have n1 : (((W.setCell ⟨BL, 0, none⟩ (.int .i64 dc)).setCell ⟨BL, 1, none⟩ (.slice a l1 c)).setCell ⟨BL, 2, none⟩ (.slice b l2 k)).cell? ⟨BL, 1, none⟩ = some (.slice a l1 c) := by simp [go_sem, k0, k1, k2, kf]
    have n2 : (((W.setCell ⟨BL, 0, none⟩ (.int .i64 dc)).setCell ⟨BL, 1, none⟩ (.slice a l1 c)).setCell ⟨BL, 2, none⟩ (.slice b l2 k)).cell? ⟨BL, 2, none⟩ = some (.slice b l2 k) := by simp [go_sem, k0, k1, k2, kf]
    have nf : ∀ o, (((W.setCell ⟨BL, 0, none⟩ (.int .i64 dc)).setCell ⟨BL, 1, none⟩ (.slice a l1 c)).setCell ⟨BL, 2, none⟩ (.slice b l2 k)).frozen? ⟨BL, o, none⟩ = false := fun o => by simp [go_sem, kf]
    generalize ((W.setCell ⟨BL, 0, none⟩ (.int .i64 dc)).setCell ⟨BL, 1, none⟩ (.slice a l1 c)).setCell ⟨BL, 2, none⟩ (.slice b l2 k) = W5 at *
    have hBW1 : Below w1.heap.size w1 W := bstep hb0 hBW
    have hBW0 : Below w.heap.size w W := bstep hB1 hBW1
    have hz5 := hM5.size
    have hneA : w.heap.size ≠ BL := by omega
    have hneR : w.heap.size + 1 ≠ BL := by omega
    have hB5 : Below w.heap.size w W5 := hM5.below hBW0 hBW0.size (fun b e => by omega)
    have s0 := hM5.cell (cell_keep hBW1 r0) hneA
    have s1 := hM5.cell (cell_keep hBW1 r1) hneA
    have s2 := hM5.cell (cell_keep hBW1 r2) hneA
    have s3 := hM5.cell (cell_keep hBW1 r3) hneA
    have s4 := hM5.cell (cell_keep hBW1 r4) hneA
    have v0 := hM5.cell (cell_keep hBW1 q0) hneR
    have v1 := hM5.cell (cell_keep hBW1 q1) hneR
    have v2 := hM5.cell (cell_keep hBW1 q2) hneR
    have v3 := hM5.cell (cell_keep hBW1 q3) hneR
    have v4 := hM5.cell (cell_keep hBW1 q4) hneR
    have v5 := hM5.cell (cell_keep hBW1 q5) hneR
    have v6 := hM5.cell (cell_keep hBW1 q6) hneR
    have vf : ∀ o, W5.frozen? ⟨w.heap.size + 1, o, none⟩ = false := fun o => (hM5.frozen (a := ⟨w.heap.size + 1, o, none⟩) (boxKeep ⟨qf, qz⟩ hBW1).2 hneR).trans ((boxKeep ⟨qf, qz⟩ hBW1).1 o)
    have vz : w.heap.size + 1 < W5.heap.size := by omega
    have nz : BL < W5.heap.size := by omega
    have HO5 : Hid (loggRR.O W5 W0.heap.size F6 (.agg #[.int .i64 dc, .slice a l1 c, .slice b l2 k]) D) := loggRR.mod o6 hM5 (fun b hb e => hnL (e ▸ hb))
    have HF6 : Hid (∀ b, F6 b → W0.heap.size ≤ b ∧ b < W5.heap.size ∧ b ≠ BL) := fun b hb => ⟨(loggRR.rng HO5.out b hb).1, (loggRR.rng HO5.out b hb).2, fun e => hnL (e ▸ hb)⟩
    clear k0 k1 k2 kf o6 hM5 r0 r1 r2 r3 r4 q0 q1 q2 q3 q4 q5 q6 qf hBW hnL hBW0 hBW1
    by_cases hdc : dc = 0
    rotate_left
    · have h2v := HDN.out hdc
      obtain ⟨h2v, h2w⟩ := h2v
      have HE : Hid (writeE d ws s = codeE 2) := h2w
      subst h2v
      clear HDN HDC h2w
      go_wp2
      refine bodyPost_ret (v := .agg #[.int .i64 2, .int .i64 0, .slice none 0 0, .slice none 0 0, .slice none 0 0, .slice none 0 0, .int .i64 0]) (by simp [results, Tryz.results18, go_sem, v0, v1, v2, v3, v4, v5, v6, vf, vz]) rfl ?_
      rw [HE.out]
      first | exact ⟨_, rfl, ⟨_, engR_nil _ _ 2 0 0⟩, bset7 hB5 (by omega) _ _ _ _ _ _ _⟩ | exact ⟨_, _, rfl, engR_nil _ _ 2 0 0, bset7 hB5 (by omega) _ _ _ _ _ _ _⟩
    obtain ⟨hlf, hDe⟩ := HDC.out hdc
    subst hDe
    subst hdc
    have HC1 : Hid (200 < (batM d ws).length → writeE d ws s = codeE 2) := writeE_m HBF.out hlf
    have HC2 : Hid (¬ 200 < (batM d ws).length → writeE d ws s = ⟨0, d.next, ⟨synL s (batL d ws), batM d ws, d.tables, d.next + 1⟩⟩) := writeE_ok HBF.out hlf
    have hwlb := wt_log hlf
    have HLF : Hid (logF (batL d ws) = 0) := hlf
    obtain ⟨y1, y2, F1, e, h1, hF1⟩ := HO5.out
    simp only [Value.agg.injEq, Array.mk.injEq, List.cons.injEq, and_true] at e
    obtain ⟨-, rfl, rfl⟩ := e
    have HOL : Hid (loggR.O W5 W0.heap.size F1 (.agg #[.slice a l1 c, .slice b l2 k]) (batL d ws)) := h1
    have HF1 : Hid (∀ b, F1 b → W0.heap.size ≤ b ∧ b < W5.heap.size ∧ b ≠ BL) := fun b hb => HF6.out b ((hF1 b).2 hb)
    clear HDC HDN h1 hF1 HO5 HF6 hlf HD0 HD1 HD2
    have hBX := hB5
    have m1 := n1
    have m2 := n2
    cases s with
    | false =>
      go_wp2
      have hbmr : putsL [] (flatTo (fun i => if i = 0 then d.mem else ws.map (wrRow d.next)) 2) = batM d ws := by
        show putsL [] ([] ++ d.mem ++ ws.map (wrRow d.next)) = _
        rw [List.nil_append, putsL_app, HBO.out.pm]
        rfl
      have HPB : Hid (putsL [] (flatTo (fun i => if i = 0 then d.mem else ws.map (wrRow d.next)) 2) = batM d ws) := hbmr
      have HSM : Hid (∀ x ∈ batM d ws, rowFault x = 0) := HBO.out.sm
      have hfl : (flatTo (fun i => if i = 0 then d.mem else ws.map (wrRow d.next)) 2).length ≤ 1000000 := by
        show ([] ++ d.mem ++ ws.map (wrRow d.next)).length ≤ _
        have h1 := HBO.out.m2
        have h2 := HBO.out.w8
        simp only [List.nil_append, List.length_append, List.length_map]
        omega
      have HFLL : Hid ((flatTo (fun i => if i = 0 then d.mem else ws.map (wrRow d.next)) 2).length ≤ 1000000) := hfl
      have hm2 := HBO.out.m2
      have hw8 := HBO.out.w8
      have hnx := HBO.out.nx
      clear hbmr hfl
      generalize batM d ws = bm at *
      refine wp_region_noPanic ?_
      refine region_upto (fun w' => w'.cell? ⟨w.heap.size, 0, none⟩ = some (.slice a1 d.log.synced.length c1) ∧ w'.cell? ⟨w.heap.size, 1, none⟩ = some (.slice a2 d.log.loose.length c2) ∧ w'.cell? ⟨w.heap.size, 2, none⟩ = some (.slice a3 d.mem.length c3) ∧ w'.cell? ⟨w.heap.size, 3, none⟩ = some (.slice a4 d.tables.length c4) ∧ w'.cell? ⟨w.heap.size, 4, none⟩ = some (.int .i64 d.next)) 16 (by kernel_rfl) ⟨cell_keep (by (repeat (first | exact Below.refl _ _ | assumption | refine Below.drew ?_ | refine balloc ?_ _ | refine bset ?_ (by simp; omega) _ | refine bset ?_ (by simp) _ | refine bstep ?_ (by assumption)))) s0, cell_keep (by (repeat (first | exact Below.refl _ _ | assumption | refine Below.drew ?_ | refine balloc ?_ _ | refine bset ?_ (by simp; omega) _ | refine bset ?_ (by simp) _ | refine bstep ?_ (by assumption)))) s1, cell_keep (by (repeat (first | exact Below.refl _ _ | assumption | refine Below.drew ?_ | refine balloc ?_ _ | refine bset ?_ (by simp; omega) _ | refine bset ?_ (by simp) _ | refine bstep ?_ (by assumption)))) s2, cell_keep (by (repeat (first | exact Below.refl _ _ | assumption | refine Below.drew ?_ | refine balloc ?_ _ | refine bset ?_ (by simp; omega) _ | refine bset ?_ (by simp) _ | refine bstep ?_ (by assumption)))) s3, cell_keep (by (repeat (first | exact Below.refl _ _ | assumption | refine Below.drew ?_ | refine balloc ?_ _ | refine bset ?_ (by simp; omega) _ | refine bset ?_ (by simp) _ | refine bstep ?_ (by assumption)))) s4⟩ (fun hS => ?_)
      refine upto_take (i := 0) (v := ?_) rfl (by kernel_rfl) (by kernel_rfl) (by kernel_rfl) (by kernel_rfl) (fun _ _ _ h => h) (by rfl) hS ?_ ?_
      rotate_left
      · intro wS hSw
        try dsimp only at hSw
        first | (go_simp; done) | (go_simp; with_reducible rfl)
      try simp only [Act.put, List.getElem_toArray, List.getElem_cons_zero, List.getElem_cons_succ, List.setIfInBounds_toArray, List.set_cons_zero, List.set_cons_succ]
      refine upto_take (i := 1) (v := ?_) rfl (by kernel_rfl) (by kernel_rfl) (by kernel_rfl) (by kernel_rfl) (fun _ _ _ h => h) (by rfl) hS ?_ ?_
      rotate_left
      · intro wS hSw
        try dsimp only at hSw
        first | (go_simp; done) | (go_simp; with_reducible rfl)
      try simp only [Act.put, List.getElem_toArray, List.getElem_cons_zero, List.getElem_cons_succ, List.setIfInBounds_toArray, List.set_cons_zero, List.set_cons_succ]
      refine upto_take (i := 5) (v := ?_) rfl (by kernel_rfl) (by kernel_rfl) (by kernel_rfl) (by kernel_rfl) (fun _ _ _ h => h) (by rfl) hS ?_ ?_
      rotate_left
      · intro wS hSw
        try dsimp only at hSw
        first | (go_simp; done) | (go_simp; with_reducible rfl)
      try simp only [Act.put, List.getElem_toArray, List.getElem_cons_zero, List.getElem_cons_succ, List.setIfInBounds_toArray, List.set_cons_zero, List.set_cons_succ]
      refine upto_take (i := 6) (v := ?_) rfl (by kernel_rfl) (by kernel_rfl) (by kernel_rfl) (by kernel_rfl) (fun _ _ _ h => h) (by rfl) hS ?_ ?_
      rotate_left
      · intro wS hSw
        try dsimp only at hSw
        first | (go_simp; done) | (go_simp; with_reducible rfl)
      try simp only [Act.put, List.getElem_toArray, List.getElem_cons_zero, List.getElem_cons_succ, List.setIfInBounds_toArray, List.set_cons_zero, List.set_cons_succ]
      refine upto_take (i := 7) (v := ?_) rfl (by kernel_rfl) (by kernel_rfl) (by kernel_rfl) (by kernel_rfl) (fun _ _ _ h => h) (by rfl) hS ?_ ?_
      rotate_left
      · intro wS hSw
        try dsimp only at hSw
        first | (go_simp; done) | (go_simp; with_reducible rfl)
      try simp only [Act.put, List.getElem_toArray, List.getElem_cons_zero, List.getElem_cons_succ, List.setIfInBounds_toArray, List.set_cons_zero, List.set_cons_succ]
      have hb9 : Below W5.heap.size W5 W5.drew := Below.drew (Below.refl _ _)
      generalize W5.drew = W9 at *
      have hz9 := hb9.size
      have hfdT := tableField a3 d.mem.length c3
      have HBX9 : Hid (∀ W, Below W9.heap.size W9 W → Below w.heap.size w W) := fun W hW => bstep (bstep hBX hb9) hW
      refine upto_dons' [(2, 39), (3, 40), (4, 41), (8, 45), (9, 46), (10, 47), (11, 36), (12, 48), (13, 49), (14, 9), (15, 99)] wbmC (wbmG (.slice a3 d.mem.length c3) (.slice ay ws.length cy) d.next bm W9.heap.size) (by kernel_rfl) hS ?_ ?_ ?_ ?_
      · intro F W W' h hm hF
        have hne : ¬ F w.heap.size := fun e => by have := hF _ e; omega
        exact ⟨hm.cell h.1 hne, hm.cell h.2.1 hne, hm.cell h.2.2.1 hne, hm.cell h.2.2.2.1 hne, hm.cell h.2.2.2.2 hne⟩
      · intro pp hp
        simp only [List.mem_cons, List.not_mem_nil, or_false] at hp
        rcases hp with rfl | rfl | rfl | rfl | rfl | rfl | rfl | rfl | rfl | rfl | rfl
        all_goals
          intro y y' F F' W W' h hi hm hap hF e he
          simp only [wbmG] at h ⊢
        · rw [e]; exact h
        · rw [e]; exact h
        · obtain ⟨lo, h1, h2, h3⟩ := h
          rw [e]
          exact ⟨lo, h1, hm.cell h2 (fun x => hap _ x ((h3 _).2 rfl)), h3⟩
        · obtain ⟨lo, h1, h2, h3, h4⟩ := h
          rw [e]
          exact ⟨lo, h1, hm.cell h2 (fun x => hap _ x ((h4 _).2 (.inl rfl))), hm.cell h3 (fun x => hap _ x ((h4 _).2 (.inr rfl))), h4⟩
        · obtain ⟨lo, p, q, h1, h2, h3, h4, h5, h6, h7⟩ := h
          rw [e]
          exact ⟨lo, p, q, h1, hm.cell h2 (fun x => hap _ x ((h7 _).2 (.inl rfl))), hm.cell h3 (fun x => hap _ x ((h7 _).2 (.inl rfl))), hm.cell h4 (fun x => hap _ x ((h7 _).2 (.inr (.inl rfl)))), hm.cell h5 (fun x => hap _ x ((h7 _).2 (.inr (.inr (.inl rfl))))), hm.cell h6 (fun x => hap _ x ((h7 _).2 (.inr (.inr (.inr rfl))))), h7⟩
        · obtain ⟨a, n, c, f, h0, h1, h2, h3⟩ := h
          rw [e]
          exact ⟨a, n, c, f, h0, fun ht => ⟨(h1 ht).1, hm.owns (h1 ht).2.1 (fun b hb x => hap _ x ((h3 b).2 ⟨ht, hb⟩)), (h1 ht).2.2⟩, h2, h3⟩
        · have e9 := he (10, 47) (by simp) (by kernel_rfl)
          rw [e, e9]; exact h
        · have e9 := he (11, 36) (by simp) (by kernel_rfl)
          rw [e, e9]; exact h
        · have e9 := he (11, 36) (by simp) (by kernel_rfl)
          rw [e, e9]; exact h
        · obtain ⟨lo, h0, h1, h2, h3, h4⟩ := h
          rw [e]
          exact ⟨lo, h0, hm.cell h1 (fun x => hap _ x ((h4 _).2 rfl)), hm.cell h2 (fun x => hap _ x ((h4 _).2 rfl)), fun o => (hm.frozen (a := ⟨lo, o, none⟩) (by have := World.block_lt_of_cell? _ _ h1; exact this) (fun x => hap _ x ((h4 _).2 rfl))).trans (h3 o), h4⟩
        · obtain ⟨lo, a, n, c, h0, h1, h2, h4⟩ := h
          have e13 := he (14, 9) (by simp) (by kernel_rfl)
          have e11 := he (12, 48) (by simp) (by kernel_rfl)
          rw [e13, e11]
          exact ⟨lo, a, n, c, h0, h1, hm.cell h2 (fun x => hap _ x ((h4 _).2 rfl)), h4⟩
      · intro pp hp
        simp only [List.mem_cons, List.not_mem_nil, or_false] at hp
        rcases hp with rfl | rfl | rfl | rfl | rfl | rfl | rfl | rfl | rfl | rfl | rfl
        · refine ⟨_, rfl, .inl rfl, ?_⟩
          intro y W Φ hSW hBW hd K hK
          clear hd
          refine ⟨?_⟩
          simp only [over, Act.put, List.getElem_toArray, List.getElem_cons_zero, List.getElem_cons_succ, List.map_cons, List.map_nil, List.foldl_cons, List.foldl_nil, List.setIfInBounds_toArray, List.set_cons_zero, List.set_cons_succ, List.set_nil] at hK ⊢
          go_simp
          refine (tableOf_any _ _ _ _).mono ?_
          rintro e w' ⟨rfl, hb⟩
          refine hK _ _ (fun _ => False) (Mod.of_below hb) (fun b hb => hb.elim) ?_
          simp only [wbmG, updV]
          exact ⟨by simp, fun b hb => hb⟩
        · refine ⟨_, rfl, .inl rfl, ?_⟩
          intro y W Φ hSW hBW hd K hK
          have g2 := (hd (2, 39) (by simp) (by kernel_rfl) (.inr (by simp [wbmC]))).2
          clear hd
          simp only [wbmG] at g2
          obtain ⟨e2, -⟩ := g2
          unfold cmpF at e2
          refine ⟨?_⟩
          simp only [over, Act.put, List.getElem_toArray, List.getElem_cons_zero, List.getElem_cons_succ, List.map_cons, List.map_nil, List.foldl_cons, List.foldl_nil, List.setIfInBounds_toArray, List.set_cons_zero, List.set_cons_succ, List.set_nil] at hK ⊢
          simp only [e2] at hK ⊢
          go_simp
          refine hK _ _ (fun _ => False) (Mod.refl _ _) (fun b hb => hb.elim) ?_
          simp only [wbmG, updV]
          exact ⟨by simp [cmpF], fun b hb => hb⟩
        · refine ⟨_, rfl, .inl rfl, ?_⟩
          intro y W Φ hSW hBW hd K hK
          have g3 := (hd (3, 40) (by simp) (by kernel_rfl) (.inr (by simp [wbmC]))).2
          clear hd
          simp only [wbmG] at g3
          obtain ⟨e3, -⟩ := g3
          have hC := all_any a3 d.mem.length c3 W
          unfold cmpF at e3 hC
          refine ⟨?_⟩
          simp only [over, Act.put, List.getElem_toArray, List.getElem_cons_zero, List.getElem_cons_succ, List.map_cons, List.map_nil, List.foldl_cons, List.foldl_nil, List.setIfInBounds_toArray, List.set_cons_zero, List.set_cons_succ, List.set_nil] at hK ⊢
          simp only [e3] at hK ⊢
          go_simp
          refine hC.mono ?_
          rintro e w' ⟨rfl, hw'⟩
          have hbw : Below W.heap.size W w' := by rw [hw']; exact balloc (balloc (Below.refl _ _) _) _
          refine hK _ _ (fun b => b = W.heap.size + 1) (Mod.of_below hbw) (fun b hb => .inr ?_) ?_
          · rw [hw']
            simp only [World.size_alloc]
            omega
          · simp only [wbmG, updV]
            refine ⟨W.heap.size + 1, by simp [valF], ?_, fun b => Iff.rfl⟩
            rw [hw']; simp [go_sem]
        · refine ⟨_, rfl, .inl rfl, ?_⟩
          intro y W Φ hSW hBW hd K hK
          clear hd
          refine ⟨?_⟩
          simp only [over, Act.put, List.getElem_toArray, List.getElem_cons_zero, List.getElem_cons_succ, List.map_cons, List.map_nil, List.foldl_cons, List.foldl_nil, List.setIfInBounds_toArray, List.set_cons_zero, List.set_cons_succ, List.set_nil] at hK ⊢
          go_simp
          refine (rowsAt_any d.next ay ws.length cy W).mono ?_
          rintro e w' ⟨rfl, hw'⟩
          have hbw : Below W.heap.size W w' := by rw [hw']; exact balloc (balloc (Below.refl _ _) _) _
          refine hK _ _ (fun b => b = W.heap.size ∨ b = W.heap.size + 1) (Mod.of_below hbw) (fun b hb => .inr ?_) ?_
          · rw [hw']
            simp only [World.size_alloc]
            rcases hb with rfl | rfl <;> omega
          · simp only [wbmG, updV]
            refine ⟨W.heap.size, by simp [rowF], ?_, ?_, fun b => Iff.rfl⟩
            all_goals (rw [hw']; simp [go_sem])
        · refine ⟨_, rfl, .inl rfl, ?_⟩
          intro y W Φ hSW hBW hd K hK
          have g4 := hd (4, 41) (by simp) (by kernel_rfl) (.inl (by simp [wbmC]))
          have g8 := hd (8, 45) (by simp) (by kernel_rfl) (.inl (by simp [wbmC]))
          clear hd
          simp only [wbmG] at g4 g8
          obtain ⟨_, p, e4, cp, fp⟩ := g4
          obtain ⟨_, q, e8, cq, cq1, fq⟩ := g8
          have zp := World.block_lt_of_cell? _ _ cp
          have zq := World.block_lt_of_cell? _ _ cq
          have zq1 := World.block_lt_of_cell? _ _ cq1
          unfold valF at e4
          unfold rowF at e8
          refine ⟨?_⟩
          simp only [over, Act.put, List.getElem_toArray, List.getElem_cons_zero, List.getElem_cons_succ, List.map_cons, List.map_nil, List.foldl_cons, List.foldl_nil, List.setIfInBounds_toArray, List.set_cons_zero, List.set_cons_succ, List.set_nil] at hK ⊢
          simp only [e4, e8] at hK ⊢
          go_simp
          refine hK _ _ (fun b => b = W.heap.size ∨ b = p ∨ b = q ∨ b = q + 1) (Mod.of_below (by (repeat (first | exact Below.refl _ _ | assumption | refine Below.drew ?_ | refine balloc ?_ _ | refine bset ?_ (by simp; omega) _ | refine bset ?_ (by simp) _ | refine bstep ?_ (by assumption))))) (fun b hb => ?_) ?_
          · rcases hb with rfl | hb | hb | hb
            · exact .inr (by simp)
            · exact .inl ⟨4, by simp [wbmC], (fp b).2 hb⟩
            · exact .inl ⟨8, by simp [wbmC], (fq b).2 (.inl hb)⟩
            · exact .inl ⟨8, by simp [wbmC], (fq b).2 (.inr hb)⟩
          · simp only [wbmG, updV]
            refine ⟨W.heap.size, p, q, by simp, by simp [go_sem, valF], by simp [go_sem, rowF], cell_keep (by (repeat (first | exact Below.refl _ _ | assumption | refine Below.drew ?_ | refine balloc ?_ _ | refine bset ?_ (by simp; omega) _ | refine bset ?_ (by simp) _ | refine bstep ?_ (by assumption)))) cp, cell_keep (by (repeat (first | exact Below.refl _ _ | assumption | refine Below.drew ?_ | refine balloc ?_ _ | refine bset ?_ (by simp; omega) _ | refine bset ?_ (by simp) _ | refine bstep ?_ (by assumption)))) cq, cell_keep (by (repeat (first | exact Below.refl _ _ | assumption | refine Below.drew ?_ | refine balloc ?_ _ | refine bset ?_ (by simp; omega) _ | refine bset ?_ (by simp) _ | refine bstep ?_ (by assumption)))) cq1, fun b => Iff.rfl⟩
        · refine ⟨_, rfl, .inl rfl, ?_⟩
          intro y W Φ hSW hBW hd K hK
          have g9 := hd (9, 46) (by simp) (by kernel_rfl) (.inr (by simp [wbmC]))
          clear hd
          simp only [wbmG] at g9
          obtain ⟨_, lo, p, q, e0, c0', c1', cp, cq, cq1, -⟩ := g9
          have hBw := HBX9.out W hBW
          have zp := World.block_lt_of_cell? _ _ cp
          have zq := World.block_lt_of_cell? _ _ cq
          have zq1 := World.block_lt_of_cell? _ _ cq1
          have hC := merged_any (.slice (some ⟨lo, 0, none⟩) 2 2) 2 200 (fun i => if i = 0 then 161 else 130) (fun i => if i = 0 then #[.pointer (some ⟨p, 0, none⟩)] else #[.pointer (some ⟨q + 1, 0, none⟩), .pointer (some ⟨q, 0, none⟩)]) (fun i => if i = 0 then d.mem else ws.map (wrRow d.next)) W
            ⟨_, 2, rfl, Nat.le_refl _, by unfold maxLen; omega, fun i hi => ⟨lo, 0, rfl, by
              match i, hi with
              | 0, _ => simpa [valF] using c0'
              | 1, _ => simpa [rowF] using c1'⟩⟩ (by omega) HFLL.out (fun i hi => by
              match i, hi with
              | 0, _ => exact enters_of Tryz.func161 (by kernel_rfl) rfl
              | 1, _ => exact enters_of Tryz.func130 (by kernel_rfl) rfl) (fun i hi => by
              match i, hi with
              | 0, _ => exact values_seq p (.slice a3 d.mem.length c3) d.mem _ W cp zp (TabAt.of (RowsV_below HVM.out hBw) (fun b hb => hb)) hm2
              | 1, _ => exact rowsAt_seq (q + 1) q (.slice ay ws.length cy) ws d.next _ W cq1 cq zq1 zq (WriAt.of (wrisR.below HY.out hBw).1 (fun b hb => hb)) (by omega))
          rw [HPB.out] at hC
          unfold cmpF at hC
          refine ⟨?_⟩
          simp only [over, Act.put, List.getElem_toArray, List.getElem_cons_zero, List.getElem_cons_succ, List.map_cons, List.map_nil, List.foldl_cons, List.foldl_nil, List.setIfInBounds_toArray, List.set_cons_zero, List.set_cons_succ, List.set_nil] at hK ⊢
          simp only [e0] at hK ⊢
          go_simp
          refine hC.mono ?_
          rintro e w' ⟨u, f, rfl, ⟨b1, n1, d1, rfl⟩, hb1, ht, hf⟩
          have hn1 : f = true → n1 = bm.length := fun h => by
            obtain ⟨a', c', e⟩ := owns_form (ht h).1
            simp only [Value.slice.injEq] at e
            exact e.2.1
          refine hK _ _ (fun b => f = true ∧ (Value.slice b1 n1 d1).ownBlock = some b) (Mod.of_below hb1) (fun b hb => .inr ((ht hb.1).1.lt b hb.2)) ?_
          simp only [wbmG, updV]
          exact ⟨b1, n1, d1, f, by simp [cmpF], fun h => ⟨hn1 h, owns_base (ht h).1 hBW.size, (ht h).2⟩, hf, fun b => Iff.rfl⟩
        · refine ⟨_, rfl, .inl rfl, ?_⟩
          intro y W Φ hSW hBW hd K hK
          have g9 := hd (10, 47) (by simp) (by kernel_rfl) (.inr (by simp [wbmC]))
          clear hd
          simp only [wbmG] at g9
          obtain ⟨-, a', n', c', f', e0, -⟩ := g9
          refine ⟨?_⟩
          simp only [over, Act.put, List.getElem_toArray, List.getElem_cons_zero, List.getElem_cons_succ, List.map_cons, List.map_nil, List.foldl_cons, List.foldl_nil, List.setIfInBounds_toArray, List.set_cons_zero, List.set_cons_succ, List.set_nil] at hK ⊢
          simp only [e0] at hK ⊢
          go_simp
          refine hK _ _ (fun _ => False) (Mod.refl _ _) (fun b hb => hb.elim) ?_
          simp only [wbmG, updV]
          exact ⟨⟨a', n', c', f', by simp⟩, by simp [e0], fun b hb => hb⟩
        · refine ⟨_, rfl, .inl rfl, ?_⟩
          intro y W Φ hSW hBW hd K hK
          have g9 := hd (11, 36) (by simp) (by kernel_rfl) (.inr (by simp [wbmC]))
          clear hd
          simp only [wbmG] at g9
          obtain ⟨-, ⟨a', n', c', f', e0⟩, -⟩ := g9
          refine ⟨?_⟩
          simp only [over, Act.put, List.getElem_toArray, List.getElem_cons_zero, List.getElem_cons_succ, List.map_cons, List.map_nil, List.foldl_cons, List.foldl_nil, List.setIfInBounds_toArray, List.set_cons_zero, List.set_cons_succ, List.set_nil] at hK ⊢
          simp only [e0] at hK ⊢
          go_simp
          refine hK _ _ (fun _ => False) (Mod.refl _ _) (fun b hb => hb.elim) ?_
          simp only [wbmG, updV]
          exact ⟨⟨a', n', c', f', by simp, by simp [e0]⟩, fun b hb => hb⟩
        · refine ⟨_, rfl, .inl rfl, ?_⟩
          intro y W Φ hSW hBW hd K hK
          have g9 := hd (11, 36) (by simp) (by kernel_rfl) (.inr (by simp [wbmC]))
          clear hd
          simp only [wbmG] at g9
          obtain ⟨-, ⟨a', n', c', f', e0⟩, -⟩ := g9
          refine ⟨?_⟩
          simp only [over, Act.put, List.getElem_toArray, List.getElem_cons_zero, List.getElem_cons_succ, List.map_cons, List.map_nil, List.foldl_cons, List.foldl_nil, List.setIfInBounds_toArray, List.set_cons_zero, List.set_cons_succ, List.set_nil] at hK ⊢
          simp only [e0] at hK ⊢
          go_simp
          refine hK _ _ (fun _ => False) (Mod.refl _ _) (fun b hb => hb.elim) ?_
          simp only [wbmG, updV]
          exact ⟨⟨.agg #[.slice a' n' c', cmpF], f', by simp, by simp [e0]⟩, fun b hb => hb⟩
        · refine ⟨_, rfl, .inl rfl, ?_⟩
          intro y W Φ hSW hBW hd K hK
          clear hd
          refine ⟨?_⟩
          simp only [over, Act.put, List.getElem_toArray, List.getElem_cons_zero, List.getElem_cons_succ, List.map_cons, List.map_nil, List.foldl_cons, List.foldl_nil, List.setIfInBounds_toArray, List.set_cons_zero, List.set_cons_succ, List.set_nil] at hK ⊢
          go_simp
          refine hK _ _ (fun b => b = W.heap.size) (Mod.of_below (by (repeat (first | exact Below.refl _ _ | assumption | refine Below.drew ?_ | refine balloc ?_ _ | refine bset ?_ (by simp; omega) _ | refine bset ?_ (by simp) _ | refine bstep ?_ (by assumption))))) (fun b hb => .inr (by simp; omega)) ?_
          simp only [wbmG, updV]
          exact ⟨W.heap.size, by simp, by simp [go_sem], by simp [go_sem], fun o => by simp [go_sem], fun b => Iff.rfl⟩
        · refine ⟨_, rfl, .inr ⟨rfl, by simp⟩, ?_⟩
          intro y W Φ hSW hBW hd K hK
          have g11 := hd (12, 48) (by simp) (by kernel_rfl) (.inr (by simp [wbmC]))
          have g13 := hd (14, 9) (by simp) (by kernel_rfl) (.inl (by simp [wbmC]))
          clear hd
          simp only [wbmG] at g11 g13
          obtain ⟨-, ⟨a', n', c', f', e0, -⟩, -⟩ := g11
          obtain ⟨_, lo, e1, k0, k1, kf, fl⟩ := g13
          unfold cmpF at e0
          refine ⟨?_⟩
          simp only [over, Act.put, List.getElem_toArray, List.getElem_cons_zero, List.getElem_cons_succ, List.map_cons, List.map_nil, List.foldl_cons, List.foldl_nil, List.setIfInBounds_toArray, List.set_cons_zero, List.set_cons_succ, List.set_nil] at hK ⊢
          simp only [e0, e1] at hK ⊢
          go_simp
          refine hK undef _ (fun b => b = lo) (((Mod.of_set W ⟨lo, 0, none⟩ _).trans (Mod.of_set _ ⟨lo, 1, none⟩ _)).mono (fun b hb => ⟨14, by simp [wbmC], (fl b).2 hb⟩)) (fun b hb => .inl ⟨14, by simp [wbmC], (fl b).2 hb⟩) ?_
          simp only [wbmG, updV]
          exact ⟨lo, a', n', c', by simp [e1], by simp [e0, cmpF], (set_other (by simp)).trans (set_same k0), fun b => Iff.rfl⟩
      · refine ⟨_, rfl, ?_⟩
        intro y W Φ hSW hBW hd hap K hK
        have g10 := hd (10, 47) (by simp) (by simp [wbmC])
        have g11 := (hd (11, 36) (by simp) (by simp [wbmC])).2
        have g12 := (hd (12, 48) (by simp) (by simp [wbmC])).2
        have g13 := (hd (13, 49) (by simp) (by simp [wbmC])).2
        have g15 := hd (15, 99) (by simp) (by simp [wbmC])
        have hap' := hap (10, 47) (by simp) (15, 99) (by simp) (by simp) (by simp [wbmC]) (by simp [wbmC])
        clear hd hap
        simp only [wbmG] at g10 g11 g12 g13 g15
        obtain ⟨-, ga, gn, gc, gf, e47, gt, gff, fF⟩ := g10
        obtain ⟨-, e36, -⟩ := g11
        obtain ⟨⟨ga', gn', gc', gf', e48, e36'⟩, -⟩ := g12
        obtain ⟨⟨gx, gf2, e49, e36''⟩, -⟩ := g13
        obtain ⟨hI15, BA, ga3, gn3, gc3, e9, e48', n9, f15⟩ := g15
        rw [e36, e47] at e36' e36''
        simp only [Value.tuple.injEq, Array.mk.injEq, List.cons.injEq, and_true, Value.bool.injEq, Value.agg.injEq, Value.slice.injEq] at e36' e36''
        obtain ⟨⟨rfl, rfl, rfl⟩, -⟩ := e36'
        obtain ⟨-, rfl⟩ := e36''
        rw [e48] at e48'
        simp only [Value.agg.injEq, Array.mk.injEq, List.cons.injEq, and_true, Value.slice.injEq] at e48'
        obtain ⟨rfl, rfl, rfl⟩ := e48'
        have hloA := hI15 BA ((f15 BA).2 rfl)
        have hnA : gf = true → (Value.slice ga gn gc).ownBlock ≠ some BA := fun h1 h => hap' BA ((fF BA).2 ⟨h1, h⟩) ((f15 BA).2 rfl)
        have hBXW : Below W5.heap.size W5 W := bstep hb9 hBW
        have hBW9 : Below w.heap.size w W := bstep hBX hBXW
        have hzW := hBXW.size
        replace s0 := cell_keep hBXW s0
        replace s1 := cell_keep hBXW s1
        replace s2 := cell_keep hBXW s2
        replace s3 := cell_keep hBXW s3
        replace s4 := cell_keep hBXW s4
        replace v0 := cell_keep hBXW v0
        replace v1 := cell_keep hBXW v1
        replace v2 := cell_keep hBXW v2
        replace v3 := cell_keep hBXW v3
        replace v4 := cell_keep hBXW v4
        replace v5 := cell_keep hBXW v5
        replace v6 := cell_keep hBXW v6
        obtain ⟨vf, vz9⟩ := boxKeep ⟨vf, vz⟩ hBXW
        have l1c := cell_keep hBXW m1
        have l2c := cell_keep hBXW m2
        have HOW : Hid (loggR.O W W0.heap.size F1 (.agg #[.slice a l1 c, .slice b l2 k]) (batL d ws)) := loggR.keep HOL.out hBXW
        have HGT : Hid (gf = true → gn = bm.length ∧ W.ownsRow W9.heap.size 76 4 (.slice ga gn gc) bm.length (rwsC bm) ∧ bm.length ≤ 200) := gt
        have HGF : Hid (gf = false → 200 < bm.length) := gff
        refine ⟨?_⟩
        simp only [over, Act.put, List.getElem_toArray, List.getElem_cons_zero, List.getElem_cons_succ, List.map_cons, List.map_nil, List.foldl_cons, List.foldl_nil, List.setIfInBounds_toArray, List.set_cons_zero, List.set_cons_succ, List.set_nil]
        simp only [e49, e9]
        clear e36 e47 e48 e9 e49 hap' fF f15 hI15 hS hSW gt gff hfdT
        go_simp
        refine hK _ _ ?_
        clear hK K
        refine NoPanic.normal ?_
        cases gf with
        | false =>
          have HE : Hid (writeE d ws false = codeE 2) := HC1.out (HGF.out rfl)
          clear HC1 HC2 HGT HGF hnA
          go_wp2
          refine bodyPost_ret (v := .agg #[.int .i64 2, .int .i64 0, .slice none 0 0, .slice none 0 0, .slice none 0 0, .slice none 0 0, .int .i64 0]) (by simp [results, Tryz.results18, go_sem, v0, v1, v2, v3, v4, v5, v6, vf, vz9]) rfl ?_
          rw [HE.out]
          first | exact ⟨_, rfl, ⟨_, engR_nil _ _ 2 0 0⟩, bset7 hBW9 (by omega) _ _ _ _ _ _ _⟩ | exact ⟨_, _, rfl, engR_nil _ _ 2 0 0, bset7 hBW9 (by omega) _ _ _ _ _ _ _⟩
        | true =>
          obtain ⟨hgn, hgo, hg2⟩ := HGT.out rfl
          have HE : Hid (writeE d ws false = ⟨0, d.next, ⟨synL false (batL d ws), bm, d.tables, d.next + 1⟩⟩) := HC2.out (by omega)
          subst hgn
          have HGO : Hid (W.ownsRow W9.heap.size 76 4 (.slice ga bm.length gc) bm.length (rwsC bm)) := hgo
          clear HC1 HC2 HGT HGF hgo
          go_wp2_with fail
          refine (copied_u _ d _ (engnR.below HX.out hBW9) HWT.out).mono ?_
          rintro e w10 ⟨v10, F10, rfl, o10, b10⟩
          have hz10' := b10.size
          replace s0 := cell_keep b10 s0
          replace s1 := cell_keep b10 s1
          replace s2 := cell_keep b10 s2
          replace s3 := cell_keep b10 s3
          replace s4 := cell_keep b10 s4
          replace v0 := cell_keep b10 v0
          replace v1 := cell_keep b10 v1
          replace v2 := cell_keep b10 v2
          replace v3 := cell_keep b10 v3
          replace v4 := cell_keep b10 v4
          replace v5 := cell_keep b10 v5
          replace v6 := cell_keep b10 v6
          obtain ⟨vf, vz10⟩ := boxKeep ⟨vf, vz9⟩ b10
          replace l1c := cell_keep b10 l1c
          replace l2c := cell_keep b10 l2c
          replace n9 := cell_keep b10 n9
          have zl := World.block_lt_of_cell? _ _ l1c
          have za := World.block_lt_of_cell? _ _ n9
          have zs := World.block_lt_of_cell? _ _ s0
          dsimp only at zl za zs
          have hB10 := bstep hBW9 b10
          have HL10 : Hid (loggR.O w10 W0.heap.size F1 (.agg #[.slice a l1 c, .slice b l2 k]) (batL d ws)) := loggR.keep HOW.out b10
          have HM10 : Hid (w10.ownsRow W9.heap.size 76 4 (.slice ga bm.length gc) bm.length (rwsC bm)) := owns_below HGO.out b10
          have HMR : Hid (∀ b, (Value.slice ga bm.length gc).ownBlock = some b → W9.heap.size ≤ b ∧ b < W.heap.size) := fun b hb => HGO.out.lt b hb
          obtain ⟨p1, p2, p3, p4, k1, k2, k3, k4, rfl⟩ := engn_form (engnR.ofO o10)
          obtain ⟨u1, u2, u3, u4, G1, G2, G3, e, o1, oM, oT, -, -, -, -⟩ := o10
          simp only [Value.agg.injEq, Array.mk.injEq, List.cons.injEq, and_true] at e
          obtain ⟨rfl, rfl, rfl, rfl⟩ := e
          have HT10 : Hid (rowssR.O w10 W.heap.size G3 (.slice p4 d.tables.length k4) d.tables) := oT
          have HG3 : Hid (∀ b, G3 b → W.heap.size ≤ b ∧ b < w10.heap.size) := fun b hb => rowssR.rng oT b hb
          have hwr : IntKind.i64.wrap (d.next + 1) = d.next + 1 := by rw [IntKind.wrap_i64]; omega
          have HBN : Hid (bm.length = bm.length) := rfl
          clear o1 oM oT b10 HOW HGO hnA
          generalize hbN : bm.length = N at *
          have HBL : Hid (bm.length = N) := hbN
          clear hbN
          go_wp2
          refine bodyPost_ret (v := .agg #[.int .i64 0, .int .i64 d.next, .slice a l1 c, .slice b l2 k, .slice ga N gc, .slice p4 d.tables.length k4, .int .i64 (d.next + 1)]) (by simp [results, Tryz.results18, go_sem, v0, v1, v2, v3, v4, v5, v6, vf, vz10]) rfl ?_
          rw [HE.out]
          have hMm : Mod (fun b => b = w.heap.size + 1) w10 ((((((((w10).setCell ⟨w.heap.size + 1, 0, none⟩ (.int .i64 0)).setCell ⟨w.heap.size + 1, 1, none⟩ (.int .i64 d.next)).setCell ⟨w.heap.size + 1, 2, none⟩ (.slice a l1 c)).setCell ⟨w.heap.size + 1, 3, none⟩ (.slice b l2 k)).setCell ⟨w.heap.size + 1, 4, none⟩ (.slice ga N gc)).setCell ⟨w.heap.size + 1, 5, none⟩ (.slice p4 d.tables.length k4)).setCell ⟨w.heap.size + 1, 6, none⟩ (.int .i64 (d.next + 1))) := mset7 (F := fun b => b = w.heap.size + 1) (Mod.refl _ _) rfl _ _ _ _ _ _ _
          have hBm : Below w.heap.size w ((((((((w10).setCell ⟨w.heap.size + 1, 0, none⟩ (.int .i64 0)).setCell ⟨w.heap.size + 1, 1, none⟩ (.int .i64 d.next)).setCell ⟨w.heap.size + 1, 2, none⟩ (.slice a l1 c)).setCell ⟨w.heap.size + 1, 3, none⟩ (.slice b l2 k)).setCell ⟨w.heap.size + 1, 4, none⟩ (.slice ga N gc)).setCell ⟨w.heap.size + 1, 5, none⟩ (.slice p4 d.tables.length k4)).setCell ⟨w.heap.size + 1, 6, none⟩ (.int .i64 (d.next + 1))) := bset7 hB10 (by omega) _ _ _ _ _ _ _
          generalize (((((((w10).setCell ⟨w.heap.size + 1, 0, none⟩ (.int .i64 0)).setCell ⟨w.heap.size + 1, 1, none⟩ (.int .i64 d.next)).setCell ⟨w.heap.size + 1, 2, none⟩ (.slice a l1 c)).setCell ⟨w.heap.size + 1, 3, none⟩ (.slice b l2 k)).setCell ⟨w.heap.size + 1, 4, none⟩ (.slice ga N gc)).setCell ⟨w.heap.size + 1, 5, none⟩ (.slice p4 d.tables.length k4)).setCell ⟨w.heap.size + 1, 6, none⟩ (.int .i64 (d.next + 1)) = Wm at *
          have hMf := hMm.alloc (.cells #[.slice a l1 c, .slice b l2 k, .slice ga N gc, .slice p4 d.tables.length k4, .int .i64 (d.next + 1)] 35)
          have hBf : Below w.heap.size w (Wm.alloc (.cells #[.slice a l1 c, .slice b l2 k, .slice ga N gc, .slice p4 d.tables.length k4, .int .i64 (d.next + 1)] 35)) := balloc hBm _
          generalize Wm.alloc (.cells #[.slice a l1 c, .slice b l2 k, .slice ga N gc, .slice p4 d.tables.length k4, .int .i64 (d.next + 1)] 35) = Wf at *
          have hfin : ∃ F, engnR.O Wf W0.heap.size F (.agg #[.slice a l1 c, .slice b l2 k, .slice ga N gc, .slice p4 d.tables.length k4, .int .i64 (d.next + 1)]) ⟨synL false (batL d ws), bm, d.tables, d.next + 1⟩ := by
            refine ⟨_, _, _, _, _, F1, (fun b => (Value.slice ga N gc).ownBlock = some b), G3, rfl, loggR.mod HL10.out hMf (fun b hb e => by have := (HF1.out b hb).1; omega), ⟨⟨?_, rfl⟩, fit_small HSM.out⟩, rowssR.base (rowssR.mod HT10.out hMf (fun b hb e => by have := HG3.out b hb; omega)) (by omega), ?_, ?_, ?_, fun b => Iff.rfl⟩
            · have h := HM10.out
              rw [HBL.out]
              exact owns_base (hMf.owns h (fun b hb e => by have := HMR.out b hb; omega)) (by omega)
            · intro b h1 h2; have := HF1.out b h1; have := HMR.out b h2; omega
            · intro b h1 h2; have := HF1.out b h1; have := HG3.out b h2; omega
            · intro b h1 h2; have := HMR.out b h1; have := HG3.out b h2; omega
          obtain ⟨FE, hfin⟩ := hfin
          have hres := engRR.base (engR_of (e := ⟨synL false (batL d ws), bm, d.tables, d.next + 1⟩) 0 d.next hfin) (base' := w.heap.size) (by omega)
          first | exact ⟨_, _, rfl, hres, hBf⟩ | exact ⟨_, rfl, ⟨_, hres⟩, hBf⟩
    | true =>
      go_wp2_with fail
      refine (implSync_u _ (batL d ws) _ (loggR.ofO HOL.out) (by omega)).mono ?_
      rintro e w6 ⟨v6', F5', rfl, o5, b5⟩
      have hsy : syncD (batL d ws) = ⟨0, ⟨(batL d ws).synced ++ (batL d ws).loose, []⟩⟩ := by unfold syncD; rw [if_pos HLF.out]
      rw [hsy] at o5
      obtain ⟨y1, y2, F5, rfl, o5, -⟩ := o5
      obtain ⟨a5, b5', c5, k5, e⟩ := logg_form (loggR.ofO o5)
      simp only [Value.agg.injEq, Array.mk.injEq, List.cons.injEq, and_true, List.length_nil] at e
      obtain ⟨rfl, rfl⟩ := e
      have hz56 := b5.size
      replace s0 := cell_keep b5 s0
      replace s1 := cell_keep b5 s1
      replace s2 := cell_keep b5 s2
      replace s3 := cell_keep b5 s3
      replace s4 := cell_keep b5 s4
      replace v0 := cell_keep b5 v0
      replace v1 := cell_keep b5 v1
      replace v2 := cell_keep b5 v2
      replace v3 := cell_keep b5 v3
      replace v4 := cell_keep b5 v4
      replace v5 := cell_keep b5 v5
      replace v6 := cell_keep b5 v6
      obtain ⟨vf, vz⟩ := boxKeep ⟨vf, vz⟩ b5
      replace n0 := cell_keep b5 n0
      replace n1 := cell_keep b5 n1
      replace n2 := cell_keep b5 n2
      obtain ⟨nf, nz⟩ := boxKeep ⟨nf, nz⟩ b5
      replace hBX := bstep hBX b5
      have HO6 : Hid (loggR.O w6 W5.heap.size F5 (.agg #[.slice a5 ((batL d ws).synced ++ (batL d ws).loose).length c5, .slice b5' 0 k5]) ⟨(batL d ws).synced ++ (batL d ws).loose, []⟩) := o5
      clear o5 b5 hsy m1 m2
      generalize ((batL d ws).synced ++ (batL d ws).loose).length = l5 at *
      go_wp2
      have hM6 : Mod (fun b => b = BL) w6 (((w6.setCell ⟨BL, 0, none⟩ (.int .i64 0)).setCell ⟨BL, 1, none⟩ (.slice a5 l5 c5)).setCell ⟨BL, 2, none⟩ (.slice b5' 0 k5)) := ((Mod.of_set w6 ⟨BL, 0, none⟩ _).trans (Mod.of_set _ ⟨BL, 1, none⟩ _)).trans (Mod.of_set _ ⟨BL, 2, none⟩ _)
      have m1 : (((w6.setCell ⟨BL, 0, none⟩ (.int .i64 0)).setCell ⟨BL, 1, none⟩ (.slice a5 l5 c5)).setCell ⟨BL, 2, none⟩ (.slice b5' 0 k5)).cell? ⟨BL, 1, none⟩ = some (.slice a5 l5 c5) := by simp [go_sem, n0, n1, n2, nf]
      have m2 : (((w6.setCell ⟨BL, 0, none⟩ (.int .i64 0)).setCell ⟨BL, 1, none⟩ (.slice a5 l5 c5)).setCell ⟨BL, 2, none⟩ (.slice b5' 0 k5)).cell? ⟨BL, 2, none⟩ = some (.slice b5' 0 k5) := by simp [go_sem, n0, n1, n2, nf]
      have hz66 : (((w6.setCell ⟨BL, 0, none⟩ (.int .i64 0)).setCell ⟨BL, 1, none⟩ (.slice a5 l5 c5)).setCell ⟨BL, 2, none⟩ (.slice b5' 0 k5)).heap.size = w6.heap.size := by simp
      generalize ((w6.setCell ⟨BL, 0, none⟩ (.int .i64 0)).setCell ⟨BL, 1, none⟩ (.slice a5 l5 c5)).setCell ⟨BL, 2, none⟩ (.slice b5' 0 k5) = W6 at *
      have HZ66 : Hid (W6.heap.size = w6.heap.size) := hz66
      have hz67 : w6.heap.size ≤ W6.heap.size := by omega
      replace s0 := hM6.cell s0 hneA
      replace s1 := hM6.cell s1 hneA
      replace s2 := hM6.cell s2 hneA
      replace s3 := hM6.cell s3 hneA
      replace s4 := hM6.cell s4 hneA
      replace v0 := hM6.cell v0 hneR
      replace v1 := hM6.cell v1 hneR
      replace v2 := hM6.cell v2 hneR
      replace v3 := hM6.cell v3 hneR
      replace v4 := hM6.cell v4 hneR
      replace v5 := hM6.cell v5 hneR
      replace v6 := hM6.cell v6 hneR
      replace vf : ∀ o, W6.frozen? ⟨w.heap.size + 1, o, none⟩ = false := fun o => (hM6.frozen (a := ⟨w.heap.size + 1, o, none⟩) vz hneR).trans (vf o)
      replace vz : w.heap.size + 1 < W6.heap.size := by omega
      replace hBX : Below w.heap.size w W6 := hM6.below hBX hBX.size (fun b e => by omega)
      have HO7 : Hid (loggR.O W6 W0.heap.size F5 (.agg #[.slice a5 l5 c5, .slice b5' 0 k5]) ⟨(batL d ws).synced ++ (batL d ws).loose, []⟩) := loggR.base (loggR.mod HO6.out hM6 (fun b hb e => by have := (loggR.rng HO6.out b hb).1; omega)) (by omega)
      have HF7 : Hid (∀ b, F5 b → W0.heap.size ≤ b ∧ b < W6.heap.size ∧ b ≠ BL) := fun b hb => ⟨(loggR.rng HO7.out b hb).1, (loggR.rng HO7.out b hb).2, fun e => by have := (loggR.rng HO6.out b hb).1; omega⟩
      clear hz66 hM6 n0 n1 n2 nf nz HO6 HOL HF1
      have hbmr : putsL [] (flatTo (fun i => if i = 0 then d.mem else ws.map (wrRow d.next)) 2) = batM d ws := by
        show putsL [] ([] ++ d.mem ++ ws.map (wrRow d.next)) = _
        rw [List.nil_append, putsL_app, HBO.out.pm]
        rfl
      have HPB : Hid (putsL [] (flatTo (fun i => if i = 0 then d.mem else ws.map (wrRow d.next)) 2) = batM d ws) := hbmr
      have HSM : Hid (∀ x ∈ batM d ws, rowFault x = 0) := HBO.out.sm
      have hfl : (flatTo (fun i => if i = 0 then d.mem else ws.map (wrRow d.next)) 2).length ≤ 1000000 := by
        show ([] ++ d.mem ++ ws.map (wrRow d.next)).length ≤ _
        have h1 := HBO.out.m2
        have h2 := HBO.out.w8
        simp only [List.nil_append, List.length_append, List.length_map]
        omega
      have HFLL : Hid ((flatTo (fun i => if i = 0 then d.mem else ws.map (wrRow d.next)) 2).length ≤ 1000000) := hfl
      have hm2 := HBO.out.m2
      have hw8 := HBO.out.w8
      have hnx := HBO.out.nx
      clear hbmr hfl
      generalize batM d ws = bm at *
      refine wp_region_noPanic ?_
      refine region_upto (fun w' => w'.cell? ⟨w.heap.size, 0, none⟩ = some (.slice a1 d.log.synced.length c1) ∧ w'.cell? ⟨w.heap.size, 1, none⟩ = some (.slice a2 d.log.loose.length c2) ∧ w'.cell? ⟨w.heap.size, 2, none⟩ = some (.slice a3 d.mem.length c3) ∧ w'.cell? ⟨w.heap.size, 3, none⟩ = some (.slice a4 d.tables.length c4) ∧ w'.cell? ⟨w.heap.size, 4, none⟩ = some (.int .i64 d.next)) 16 (by kernel_rfl) ⟨cell_keep (by (repeat (first | exact Below.refl _ _ | assumption | refine Below.drew ?_ | refine balloc ?_ _ | refine bset ?_ (by simp; omega) _ | refine bset ?_ (by simp) _ | refine bstep ?_ (by assumption)))) s0, cell_keep (by (repeat (first | exact Below.refl _ _ | assumption | refine Below.drew ?_ | refine balloc ?_ _ | refine bset ?_ (by simp; omega) _ | refine bset ?_ (by simp) _ | refine bstep ?_ (by assumption)))) s1, cell_keep (by (repeat (first | exact Below.refl _ _ | assumption | refine Below.drew ?_ | refine balloc ?_ _ | refine bset ?_ (by simp; omega) _ | refine bset ?_ (by simp) _ | refine bstep ?_ (by assumption)))) s2, cell_keep (by (repeat (first | exact Below.refl _ _ | assumption | refine Below.drew ?_ | refine balloc ?_ _ | refine bset ?_ (by simp; omega) _ | refine bset ?_ (by simp) _ | refine bstep ?_ (by assumption)))) s3, cell_keep (by (repeat (first | exact Below.refl _ _ | assumption | refine Below.drew ?_ | refine balloc ?_ _ | refine bset ?_ (by simp; omega) _ | refine bset ?_ (by simp) _ | refine bstep ?_ (by assumption)))) s4⟩ (fun hS => ?_)
      refine upto_take (i := 0) (v := ?_) rfl (by kernel_rfl) (by kernel_rfl) (by kernel_rfl) (by kernel_rfl) (fun _ _ _ h => h) (by rfl) hS ?_ ?_
      rotate_left
      · intro wS hSw
        try dsimp only at hSw
        first | (go_simp; done) | (go_simp; with_reducible rfl)
      try simp only [Act.put, List.getElem_toArray, List.getElem_cons_zero, List.getElem_cons_succ, List.setIfInBounds_toArray, List.set_cons_zero, List.set_cons_succ]
      refine upto_take (i := 1) (v := ?_) rfl (by kernel_rfl) (by kernel_rfl) (by kernel_rfl) (by kernel_rfl) (fun _ _ _ h => h) (by rfl) hS ?_ ?_
      rotate_left
      · intro wS hSw
        try dsimp only at hSw
        first | (go_simp; done) | (go_simp; with_reducible rfl)
      try simp only [Act.put, List.getElem_toArray, List.getElem_cons_zero, List.getElem_cons_succ, List.setIfInBounds_toArray, List.set_cons_zero, List.set_cons_succ]
      refine upto_take (i := 5) (v := ?_) rfl (by kernel_rfl) (by kernel_rfl) (by kernel_rfl) (by kernel_rfl) (fun _ _ _ h => h) (by rfl) hS ?_ ?_
      rotate_left
      · intro wS hSw
        try dsimp only at hSw
        first | (go_simp; done) | (go_simp; with_reducible rfl)
      try simp only [Act.put, List.getElem_toArray, List.getElem_cons_zero, List.getElem_cons_succ, List.setIfInBounds_toArray, List.set_cons_zero, List.set_cons_succ]
      refine upto_take (i := 6) (v := ?_) rfl (by kernel_rfl) (by kernel_rfl) (by kernel_rfl) (by kernel_rfl) (fun _ _ _ h => h) (by rfl) hS ?_ ?_
      rotate_left
      · intro wS hSw
        try dsimp only at hSw
        first | (go_simp; done) | (go_simp; with_reducible rfl)
      try simp only [Act.put, List.getElem_toArray, List.getElem_cons_zero, List.getElem_cons_succ, List.setIfInBounds_toArray, List.set_cons_zero, List.set_cons_succ]
      refine upto_take (i := 7) (v := ?_) rfl (by kernel_rfl) (by kernel_rfl) (by kernel_rfl) (by kernel_rfl) (fun _ _ _ h => h) (by rfl) hS ?_ ?_
      rotate_left
      · intro wS hSw
        try dsimp only at hSw
        first | (go_simp; done) | (go_simp; with_reducible rfl)
      try simp only [Act.put, List.getElem_toArray, List.getElem_cons_zero, List.getElem_cons_succ, List.setIfInBounds_toArray, List.set_cons_zero, List.set_cons_succ]
      have hb9 : Below W6.heap.size W6 W6.drew := Below.drew (Below.refl _ _)
      generalize W6.drew = W9 at *
      have hz9 := hb9.size
      have hfdT := tableField a3 d.mem.length c3
      have HBX9 : Hid (∀ W, Below W9.heap.size W9 W → Below w.heap.size w W) := fun W hW => bstep (bstep hBX hb9) hW
      refine upto_dons' [(2, 39), (3, 40), (4, 41), (8, 45), (9, 46), (10, 47), (11, 36), (12, 48), (13, 49), (14, 9), (15, 99)] wbmC (wbmG (.slice a3 d.mem.length c3) (.slice ay ws.length cy) d.next bm W9.heap.size) (by kernel_rfl) hS ?_ ?_ ?_ ?_
      · intro F W W' h hm hF
        have hne : ¬ F w.heap.size := fun e => by have := hF _ e; omega
        exact ⟨hm.cell h.1 hne, hm.cell h.2.1 hne, hm.cell h.2.2.1 hne, hm.cell h.2.2.2.1 hne, hm.cell h.2.2.2.2 hne⟩
      · intro pp hp
        simp only [List.mem_cons, List.not_mem_nil, or_false] at hp
        rcases hp with rfl | rfl | rfl | rfl | rfl | rfl | rfl | rfl | rfl | rfl | rfl
        all_goals
          intro y y' F F' W W' h hi hm hap hF e he
          simp only [wbmG] at h ⊢
        · rw [e]; exact h
        · rw [e]; exact h
        · obtain ⟨lo, h1, h2, h3⟩ := h
          rw [e]
          exact ⟨lo, h1, hm.cell h2 (fun x => hap _ x ((h3 _).2 rfl)), h3⟩
        · obtain ⟨lo, h1, h2, h3, h4⟩ := h
          rw [e]
          exact ⟨lo, h1, hm.cell h2 (fun x => hap _ x ((h4 _).2 (.inl rfl))), hm.cell h3 (fun x => hap _ x ((h4 _).2 (.inr rfl))), h4⟩
        · obtain ⟨lo, p, q, h1, h2, h3, h4, h5, h6, h7⟩ := h
          rw [e]
          exact ⟨lo, p, q, h1, hm.cell h2 (fun x => hap _ x ((h7 _).2 (.inl rfl))), hm.cell h3 (fun x => hap _ x ((h7 _).2 (.inl rfl))), hm.cell h4 (fun x => hap _ x ((h7 _).2 (.inr (.inl rfl)))), hm.cell h5 (fun x => hap _ x ((h7 _).2 (.inr (.inr (.inl rfl))))), hm.cell h6 (fun x => hap _ x ((h7 _).2 (.inr (.inr (.inr rfl))))), h7⟩
        · obtain ⟨a, n, c, f, h0, h1, h2, h3⟩ := h
          rw [e]
          exact ⟨a, n, c, f, h0, fun ht => ⟨(h1 ht).1, hm.owns (h1 ht).2.1 (fun b hb x => hap _ x ((h3 b).2 ⟨ht, hb⟩)), (h1 ht).2.2⟩, h2, h3⟩
        · have e9 := he (10, 47) (by simp) (by kernel_rfl)
          rw [e, e9]; exact h
        · have e9 := he (11, 36) (by simp) (by kernel_rfl)
          rw [e, e9]; exact h
        · have e9 := he (11, 36) (by simp) (by kernel_rfl)
          rw [e, e9]; exact h
        · obtain ⟨lo, h0, h1, h2, h3, h4⟩ := h
          rw [e]
          exact ⟨lo, h0, hm.cell h1 (fun x => hap _ x ((h4 _).2 rfl)), hm.cell h2 (fun x => hap _ x ((h4 _).2 rfl)), fun o => (hm.frozen (a := ⟨lo, o, none⟩) (by have := World.block_lt_of_cell? _ _ h1; exact this) (fun x => hap _ x ((h4 _).2 rfl))).trans (h3 o), h4⟩
        · obtain ⟨lo, a, n, c, h0, h1, h2, h4⟩ := h
          have e13 := he (14, 9) (by simp) (by kernel_rfl)
          have e11 := he (12, 48) (by simp) (by kernel_rfl)
          rw [e13, e11]
          exact ⟨lo, a, n, c, h0, h1, hm.cell h2 (fun x => hap _ x ((h4 _).2 rfl)), h4⟩
      · intro pp hp
        simp only [List.mem_cons, List.not_mem_nil, or_false] at hp
        rcases hp with rfl | rfl | rfl | rfl | rfl | rfl | rfl | rfl | rfl | rfl | rfl
        · refine ⟨_, rfl, .inl rfl, ?_⟩
          intro y W Φ hSW hBW hd K hK
          clear hd
          refine ⟨?_⟩
          simp only [over, Act.put, List.getElem_toArray, List.getElem_cons_zero, List.getElem_cons_succ, List.map_cons, List.map_nil, List.foldl_cons, List.foldl_nil, List.setIfInBounds_toArray, List.set_cons_zero, List.set_cons_succ, List.set_nil] at hK ⊢
          go_simp
          refine (tableOf_any _ _ _ _).mono ?_
          rintro e w' ⟨rfl, hb⟩
          refine hK _ _ (fun _ => False) (Mod.of_below hb) (fun b hb => hb.elim) ?_
          simp only [wbmG, updV]
          exact ⟨by simp, fun b hb => hb⟩
        · refine ⟨_, rfl, .inl rfl, ?_⟩
          intro y W Φ hSW hBW hd K hK
          have g2 := (hd (2, 39) (by simp) (by kernel_rfl) (.inr (by simp [wbmC]))).2
          clear hd
          simp only [wbmG] at g2
          obtain ⟨e2, -⟩ := g2
          unfold cmpF at e2
          refine ⟨?_⟩
          simp only [over, Act.put, List.getElem_toArray, List.getElem_cons_zero, List.getElem_cons_succ, List.map_cons, List.map_nil, List.foldl_cons, List.foldl_nil, List.setIfInBounds_toArray, List.set_cons_zero, List.set_cons_succ, List.set_nil] at hK ⊢
          simp only [e2] at hK ⊢
          go_simp
          refine hK _ _ (fun _ => False) (Mod.refl _ _) (fun b hb => hb.elim) ?_
          simp only [wbmG, updV]
          exact ⟨by simp [cmpF], fun b hb => hb⟩
        · refine ⟨_, rfl, .inl rfl, ?_⟩
          intro y W Φ hSW hBW hd K hK
          have g3 := (hd (3, 40) (by simp) (by kernel_rfl) (.inr (by simp [wbmC]))).2
          clear hd
          simp only [wbmG] at g3
          obtain ⟨e3, -⟩ := g3
          have hC := all_any a3 d.mem.length c3 W
          unfold cmpF at e3 hC
          refine ⟨?_⟩
          simp only [over, Act.put, List.getElem_toArray, List.getElem_cons_zero, List.getElem_cons_succ, List.map_cons, List.map_nil, List.foldl_cons, List.foldl_nil, List.setIfInBounds_toArray, List.set_cons_zero, List.set_cons_succ, List.set_nil] at hK ⊢
          simp only [e3] at hK ⊢
          go_simp
          refine hC.mono ?_
          rintro e w' ⟨rfl, hw'⟩
          have hbw : Below W.heap.size W w' := by rw [hw']; exact balloc (balloc (Below.refl _ _) _) _
          refine hK _ _ (fun b => b = W.heap.size + 1) (Mod.of_below hbw) (fun b hb => .inr ?_) ?_
          · rw [hw']
            simp only [World.size_alloc]
            omega
          · simp only [wbmG, updV]
            refine ⟨W.heap.size + 1, by simp [valF], ?_, fun b => Iff.rfl⟩
            rw [hw']; simp [go_sem]
        · refine ⟨_, rfl, .inl rfl, ?_⟩
          intro y W Φ hSW hBW hd K hK
          clear hd
          refine ⟨?_⟩
          simp only [over, Act.put, List.getElem_toArray, List.getElem_cons_zero, List.getElem_cons_succ, List.map_cons, List.map_nil, List.foldl_cons, List.foldl_nil, List.setIfInBounds_toArray, List.set_cons_zero, List.set_cons_succ, List.set_nil] at hK ⊢
          go_simp
          refine (rowsAt_any d.next ay ws.length cy W).mono ?_
          rintro e w' ⟨rfl, hw'⟩
          have hbw : Below W.heap.size W w' := by rw [hw']; exact balloc (balloc (Below.refl _ _) _) _
          refine hK _ _ (fun b => b = W.heap.size ∨ b = W.heap.size + 1) (Mod.of_below hbw) (fun b hb => .inr ?_) ?_
          · rw [hw']
            simp only [World.size_alloc]
            rcases hb with rfl | rfl <;> omega
          · simp only [wbmG, updV]
            refine ⟨W.heap.size, by simp [rowF], ?_, ?_, fun b => Iff.rfl⟩
            all_goals (rw [hw']; simp [go_sem])
        · refine ⟨_, rfl, .inl rfl, ?_⟩
          intro y W Φ hSW hBW hd K hK
          have g4 := hd (4, 41) (by simp) (by kernel_rfl) (.inl (by simp [wbmC]))
          have g8 := hd (8, 45) (by simp) (by kernel_rfl) (.inl (by simp [wbmC]))
          clear hd
          simp only [wbmG] at g4 g8
          obtain ⟨_, p, e4, cp, fp⟩ := g4
          obtain ⟨_, q, e8, cq, cq1, fq⟩ := g8
          have zp := World.block_lt_of_cell? _ _ cp
          have zq := World.block_lt_of_cell? _ _ cq
          have zq1 := World.block_lt_of_cell? _ _ cq1
          unfold valF at e4
          unfold rowF at e8
          refine ⟨?_⟩
          simp only [over, Act.put, List.getElem_toArray, List.getElem_cons_zero, List.getElem_cons_succ, List.map_cons, List.map_nil, List.foldl_cons, List.foldl_nil, List.setIfInBounds_toArray, List.set_cons_zero, List.set_cons_succ, List.set_nil] at hK ⊢
          simp only [e4, e8] at hK ⊢
          go_simp
          refine hK _ _ (fun b => b = W.heap.size ∨ b = p ∨ b = q ∨ b = q + 1) (Mod.of_below (by (repeat (first | exact Below.refl _ _ | assumption | refine Below.drew ?_ | refine balloc ?_ _ | refine bset ?_ (by simp; omega) _ | refine bset ?_ (by simp) _ | refine bstep ?_ (by assumption))))) (fun b hb => ?_) ?_
          · rcases hb with rfl | hb | hb | hb
            · exact .inr (by simp)
            · exact .inl ⟨4, by simp [wbmC], (fp b).2 hb⟩
            · exact .inl ⟨8, by simp [wbmC], (fq b).2 (.inl hb)⟩
            · exact .inl ⟨8, by simp [wbmC], (fq b).2 (.inr hb)⟩
          · simp only [wbmG, updV]
            refine ⟨W.heap.size, p, q, by simp, by simp [go_sem, valF], by simp [go_sem, rowF], cell_keep (by (repeat (first | exact Below.refl _ _ | assumption | refine Below.drew ?_ | refine balloc ?_ _ | refine bset ?_ (by simp; omega) _ | refine bset ?_ (by simp) _ | refine bstep ?_ (by assumption)))) cp, cell_keep (by (repeat (first | exact Below.refl _ _ | assumption | refine Below.drew ?_ | refine balloc ?_ _ | refine bset ?_ (by simp; omega) _ | refine bset ?_ (by simp) _ | refine bstep ?_ (by assumption)))) cq, cell_keep (by (repeat (first | exact Below.refl _ _ | assumption | refine Below.drew ?_ | refine balloc ?_ _ | refine bset ?_ (by simp; omega) _ | refine bset ?_ (by simp) _ | refine bstep ?_ (by assumption)))) cq1, fun b => Iff.rfl⟩
        · refine ⟨_, rfl, .inl rfl, ?_⟩
          intro y W Φ hSW hBW hd K hK
          have g9 := hd (9, 46) (by simp) (by kernel_rfl) (.inr (by simp [wbmC]))
          clear hd
          simp only [wbmG] at g9
          obtain ⟨_, lo, p, q, e0, c0', c1', cp, cq, cq1, -⟩ := g9
          have hBw := HBX9.out W hBW
          have zp := World.block_lt_of_cell? _ _ cp
          have zq := World.block_lt_of_cell? _ _ cq
          have zq1 := World.block_lt_of_cell? _ _ cq1
          have hC := merged_any (.slice (some ⟨lo, 0, none⟩) 2 2) 2 200 (fun i => if i = 0 then 161 else 130) (fun i => if i = 0 then #[.pointer (some ⟨p, 0, none⟩)] else #[.pointer (some ⟨q + 1, 0, none⟩), .pointer (some ⟨q, 0, none⟩)]) (fun i => if i = 0 then d.mem else ws.map (wrRow d.next)) W
            ⟨_, 2, rfl, Nat.le_refl _, by unfold maxLen; omega, fun i hi => ⟨lo, 0, rfl, by
              match i, hi with
              | 0, _ => simpa [valF] using c0'
              | 1, _ => simpa [rowF] using c1'⟩⟩ (by omega) HFLL.out (fun i hi => by
              match i, hi with
              | 0, _ => exact enters_of Tryz.func161 (by kernel_rfl) rfl
              | 1, _ => exact enters_of Tryz.func130 (by kernel_rfl) rfl) (fun i hi => by
              match i, hi with
              | 0, _ => exact values_seq p (.slice a3 d.mem.length c3) d.mem _ W cp zp (TabAt.of (RowsV_below HVM.out hBw) (fun b hb => hb)) hm2
              | 1, _ => exact rowsAt_seq (q + 1) q (.slice ay ws.length cy) ws d.next _ W cq1 cq zq1 zq (WriAt.of (wrisR.below HY.out hBw).1 (fun b hb => hb)) (by omega))
          rw [HPB.out] at hC
          unfold cmpF at hC
          refine ⟨?_⟩
          simp only [over, Act.put, List.getElem_toArray, List.getElem_cons_zero, List.getElem_cons_succ, List.map_cons, List.map_nil, List.foldl_cons, List.foldl_nil, List.setIfInBounds_toArray, List.set_cons_zero, List.set_cons_succ, List.set_nil] at hK ⊢
          simp only [e0] at hK ⊢
          go_simp
          refine hC.mono ?_
          rintro e w' ⟨u, f, rfl, ⟨b1, n1, d1, rfl⟩, hb1, ht, hf⟩
          have hn1 : f = true → n1 = bm.length := fun h => by
            obtain ⟨a', c', e⟩ := owns_form (ht h).1
            simp only [Value.slice.injEq] at e
            exact e.2.1
          refine hK _ _ (fun b => f = true ∧ (Value.slice b1 n1 d1).ownBlock = some b) (Mod.of_below hb1) (fun b hb => .inr ((ht hb.1).1.lt b hb.2)) ?_
          simp only [wbmG, updV]
          exact ⟨b1, n1, d1, f, by simp [cmpF], fun h => ⟨hn1 h, owns_base (ht h).1 hBW.size, (ht h).2⟩, hf, fun b => Iff.rfl⟩
        · refine ⟨_, rfl, .inl rfl, ?_⟩
          intro y W Φ hSW hBW hd K hK
          have g9 := hd (10, 47) (by simp) (by kernel_rfl) (.inr (by simp [wbmC]))
          clear hd
          simp only [wbmG] at g9
          obtain ⟨-, a', n', c', f', e0, -⟩ := g9
          refine ⟨?_⟩
          simp only [over, Act.put, List.getElem_toArray, List.getElem_cons_zero, List.getElem_cons_succ, List.map_cons, List.map_nil, List.foldl_cons, List.foldl_nil, List.setIfInBounds_toArray, List.set_cons_zero, List.set_cons_succ, List.set_nil] at hK ⊢
          simp only [e0] at hK ⊢
          go_simp
          refine hK _ _ (fun _ => False) (Mod.refl _ _) (fun b hb => hb.elim) ?_
          simp only [wbmG, updV]
          exact ⟨⟨a', n', c', f', by simp⟩, by simp [e0], fun b hb => hb⟩
        · refine ⟨_, rfl, .inl rfl, ?_⟩
          intro y W Φ hSW hBW hd K hK
          have g9 := hd (11, 36) (by simp) (by kernel_rfl) (.inr (by simp [wbmC]))
          clear hd
          simp only [wbmG] at g9
          obtain ⟨-, ⟨a', n', c', f', e0⟩, -⟩ := g9
          refine ⟨?_⟩
          simp only [over, Act.put, List.getElem_toArray, List.getElem_cons_zero, List.getElem_cons_succ, List.map_cons, List.map_nil, List.foldl_cons, List.foldl_nil, List.setIfInBounds_toArray, List.set_cons_zero, List.set_cons_succ, List.set_nil] at hK ⊢
          simp only [e0] at hK ⊢
          go_simp
          refine hK _ _ (fun _ => False) (Mod.refl _ _) (fun b hb => hb.elim) ?_
          simp only [wbmG, updV]
          exact ⟨⟨a', n', c', f', by simp, by simp [e0]⟩, fun b hb => hb⟩
        · refine ⟨_, rfl, .inl rfl, ?_⟩
          intro y W Φ hSW hBW hd K hK
          have g9 := hd (11, 36) (by simp) (by kernel_rfl) (.inr (by simp [wbmC]))
          clear hd
          simp only [wbmG] at g9
          obtain ⟨-, ⟨a', n', c', f', e0⟩, -⟩ := g9
          refine ⟨?_⟩
          simp only [over, Act.put, List.getElem_toArray, List.getElem_cons_zero, List.getElem_cons_succ, List.map_cons, List.map_nil, List.foldl_cons, List.foldl_nil, List.setIfInBounds_toArray, List.set_cons_zero, List.set_cons_succ, List.set_nil] at hK ⊢
          simp only [e0] at hK ⊢
          go_simp
          refine hK _ _ (fun _ => False) (Mod.refl _ _) (fun b hb => hb.elim) ?_
          simp only [wbmG, updV]
          exact ⟨⟨.agg #[.slice a' n' c', cmpF], f', by simp, by simp [e0]⟩, fun b hb => hb⟩
        · refine ⟨_, rfl, .inl rfl, ?_⟩
          intro y W Φ hSW hBW hd K hK
          clear hd
          refine ⟨?_⟩
          simp only [over, Act.put, List.getElem_toArray, List.getElem_cons_zero, List.getElem_cons_succ, List.map_cons, List.map_nil, List.foldl_cons, List.foldl_nil, List.setIfInBounds_toArray, List.set_cons_zero, List.set_cons_succ, List.set_nil] at hK ⊢
          go_simp
          refine hK _ _ (fun b => b = W.heap.size) (Mod.of_below (by (repeat (first | exact Below.refl _ _ | assumption | refine Below.drew ?_ | refine balloc ?_ _ | refine bset ?_ (by simp; omega) _ | refine bset ?_ (by simp) _ | refine bstep ?_ (by assumption))))) (fun b hb => .inr (by simp; omega)) ?_
          simp only [wbmG, updV]
          exact ⟨W.heap.size, by simp, by simp [go_sem], by simp [go_sem], fun o => by simp [go_sem], fun b => Iff.rfl⟩
        · refine ⟨_, rfl, .inr ⟨rfl, by simp⟩, ?_⟩
          intro y W Φ hSW hBW hd K hK
          have g11 := hd (12, 48) (by simp) (by kernel_rfl) (.inr (by simp [wbmC]))
          have g13 := hd (14, 9) (by simp) (by kernel_rfl) (.inl (by simp [wbmC]))
          clear hd
          simp only [wbmG] at g11 g13
          obtain ⟨-, ⟨a', n', c', f', e0, -⟩, -⟩ := g11
          obtain ⟨_, lo, e1, k0, k1, kf, fl⟩ := g13
          unfold cmpF at e0
          refine ⟨?_⟩
          simp only [over, Act.put, List.getElem_toArray, List.getElem_cons_zero, List.getElem_cons_succ, List.map_cons, List.map_nil, List.foldl_cons, List.foldl_nil, List.setIfInBounds_toArray, List.set_cons_zero, List.set_cons_succ, List.set_nil] at hK ⊢
          simp only [e0, e1] at hK ⊢
          go_simp
          refine hK undef _ (fun b => b = lo) (((Mod.of_set W ⟨lo, 0, none⟩ _).trans (Mod.of_set _ ⟨lo, 1, none⟩ _)).mono (fun b hb => ⟨14, by simp [wbmC], (fl b).2 hb⟩)) (fun b hb => .inl ⟨14, by simp [wbmC], (fl b).2 hb⟩) ?_
          simp only [wbmG, updV]
          exact ⟨lo, a', n', c', by simp [e1], by simp [e0, cmpF], (set_other (by simp)).trans (set_same k0), fun b => Iff.rfl⟩
      · refine ⟨_, rfl, ?_⟩
        intro y W Φ hSW hBW hd hap K hK
        have g10 := hd (10, 47) (by simp) (by simp [wbmC])
        have g11 := (hd (11, 36) (by simp) (by simp [wbmC])).2
        have g12 := (hd (12, 48) (by simp) (by simp [wbmC])).2
        have g13 := (hd (13, 49) (by simp) (by simp [wbmC])).2
        have g15 := hd (15, 99) (by simp) (by simp [wbmC])
        have hap' := hap (10, 47) (by simp) (15, 99) (by simp) (by simp) (by simp [wbmC]) (by simp [wbmC])
        clear hd hap
        simp only [wbmG] at g10 g11 g12 g13 g15
        obtain ⟨-, ga, gn, gc, gf, e47, gt, gff, fF⟩ := g10
        obtain ⟨-, e36, -⟩ := g11
        obtain ⟨⟨ga', gn', gc', gf', e48, e36'⟩, -⟩ := g12
        obtain ⟨⟨gx, gf2, e49, e36''⟩, -⟩ := g13
        obtain ⟨hI15, BA, ga3, gn3, gc3, e9, e48', n9, f15⟩ := g15
        rw [e36, e47] at e36' e36''
        simp only [Value.tuple.injEq, Array.mk.injEq, List.cons.injEq, and_true, Value.bool.injEq, Value.agg.injEq, Value.slice.injEq] at e36' e36''
        obtain ⟨⟨rfl, rfl, rfl⟩, -⟩ := e36'
        obtain ⟨-, rfl⟩ := e36''
        rw [e48] at e48'
        simp only [Value.agg.injEq, Array.mk.injEq, List.cons.injEq, and_true, Value.slice.injEq] at e48'
        obtain ⟨rfl, rfl, rfl⟩ := e48'
        have hloA := hI15 BA ((f15 BA).2 rfl)
        have hnA : gf = true → (Value.slice ga gn gc).ownBlock ≠ some BA := fun h1 h => hap' BA ((fF BA).2 ⟨h1, h⟩) ((f15 BA).2 rfl)
        have hBXW : Below W6.heap.size W6 W := bstep hb9 hBW
        have hBW9 : Below w.heap.size w W := bstep hBX hBXW
        have hzW := hBXW.size
        replace s0 := cell_keep hBXW s0
        replace s1 := cell_keep hBXW s1
        replace s2 := cell_keep hBXW s2
        replace s3 := cell_keep hBXW s3
        replace s4 := cell_keep hBXW s4
        replace v0 := cell_keep hBXW v0
        replace v1 := cell_keep hBXW v1
        replace v2 := cell_keep hBXW v2
        replace v3 := cell_keep hBXW v3
        replace v4 := cell_keep hBXW v4
        replace v5 := cell_keep hBXW v5
        replace v6 := cell_keep hBXW v6
        obtain ⟨vf, vz9⟩ := boxKeep ⟨vf, vz⟩ hBXW
        have l1c := cell_keep hBXW m1
        have l2c := cell_keep hBXW m2
        have HOW : Hid (loggR.O W W0.heap.size F5 (.agg #[.slice a5 l5 c5, .slice b5' 0 k5]) ⟨(batL d ws).synced ++ (batL d ws).loose, []⟩) := loggR.keep HO7.out hBXW
        have HGT : Hid (gf = true → gn = bm.length ∧ W.ownsRow W9.heap.size 76 4 (.slice ga gn gc) bm.length (rwsC bm) ∧ bm.length ≤ 200) := gt
        have HGF : Hid (gf = false → 200 < bm.length) := gff
        refine ⟨?_⟩
        simp only [over, Act.put, List.getElem_toArray, List.getElem_cons_zero, List.getElem_cons_succ, List.map_cons, List.map_nil, List.foldl_cons, List.foldl_nil, List.setIfInBounds_toArray, List.set_cons_zero, List.set_cons_succ, List.set_nil]
        simp only [e49, e9]
        clear e36 e47 e48 e9 e49 hap' fF f15 hI15 hS hSW gt gff hfdT
        go_simp
        refine hK _ _ ?_
        clear hK K
        refine NoPanic.normal ?_
        cases gf with
        | false =>
          have HE : Hid (writeE d ws true = codeE 2) := HC1.out (HGF.out rfl)
          clear HC1 HC2 HGT HGF hnA
          go_wp2
          refine bodyPost_ret (v := .agg #[.int .i64 2, .int .i64 0, .slice none 0 0, .slice none 0 0, .slice none 0 0, .slice none 0 0, .int .i64 0]) (by simp [results, Tryz.results18, go_sem, v0, v1, v2, v3, v4, v5, v6, vf, vz9]) rfl ?_
          rw [HE.out]
          first | exact ⟨_, rfl, ⟨_, engR_nil _ _ 2 0 0⟩, bset7 hBW9 (by omega) _ _ _ _ _ _ _⟩ | exact ⟨_, _, rfl, engR_nil _ _ 2 0 0, bset7 hBW9 (by omega) _ _ _ _ _ _ _⟩
        | true =>
          obtain ⟨hgn, hgo, hg2⟩ := HGT.out rfl
          have HE : Hid (writeE d ws true = ⟨0, d.next, ⟨synL true (batL d ws), bm, d.tables, d.next + 1⟩⟩) := HC2.out (by omega)
          subst hgn
          have HGO : Hid (W.ownsRow W9.heap.size 76 4 (.slice ga bm.length gc) bm.length (rwsC bm)) := hgo
          clear HC1 HC2 HGT HGF hgo
          go_wp2_with fail
          refine (copied_u _ d _ (engnR.below HX.out hBW9) HWT.out).mono ?_
          rintro e w10 ⟨v10, F10, rfl, o10, b10⟩
          have hz10' := b10.size
          replace s0 := cell_keep b10 s0
          replace s1 := cell_keep b10 s1
          replace s2 := cell_keep b10 s2
          replace s3 := cell_keep b10 s3
          replace s4 := cell_keep b10 s4
          replace v0 := cell_keep b10 v0
          replace v1 := cell_keep b10 v1
          replace v2 := cell_keep b10 v2
          replace v3 := cell_keep b10 v3
          replace v4 := cell_keep b10 v4
          replace v5 := cell_keep b10 v5
          replace v6 := cell_keep b10 v6
          obtain ⟨vf, vz10⟩ := boxKeep ⟨vf, vz9⟩ b10
          replace l1c := cell_keep b10 l1c
          replace l2c := cell_keep b10 l2c
          replace n9 := cell_keep b10 n9
          have zl := World.block_lt_of_cell? _ _ l1c
          have za := World.block_lt_of_cell? _ _ n9
          have zs := World.block_lt_of_cell? _ _ s0
          dsimp only at zl za zs
          have hB10 := bstep hBW9 b10
          have HL10 : Hid (loggR.O w10 W0.heap.size F5 (.agg #[.slice a5 l5 c5, .slice b5' 0 k5]) ⟨(batL d ws).synced ++ (batL d ws).loose, []⟩) := loggR.keep HOW.out b10
          have HM10 : Hid (w10.ownsRow W9.heap.size 76 4 (.slice ga bm.length gc) bm.length (rwsC bm)) := owns_below HGO.out b10
          have HMR : Hid (∀ b, (Value.slice ga bm.length gc).ownBlock = some b → W9.heap.size ≤ b ∧ b < W.heap.size) := fun b hb => HGO.out.lt b hb
          obtain ⟨p1, p2, p3, p4, k1, k2, k3, k4, rfl⟩ := engn_form (engnR.ofO o10)
          obtain ⟨u1, u2, u3, u4, G1, G2, G3, e, o1, oM, oT, -, -, -, -⟩ := o10
          simp only [Value.agg.injEq, Array.mk.injEq, List.cons.injEq, and_true] at e
          obtain ⟨rfl, rfl, rfl, rfl⟩ := e
          have HT10 : Hid (rowssR.O w10 W.heap.size G3 (.slice p4 d.tables.length k4) d.tables) := oT
          have HG3 : Hid (∀ b, G3 b → W.heap.size ≤ b ∧ b < w10.heap.size) := fun b hb => rowssR.rng oT b hb
          have hwr : IntKind.i64.wrap (d.next + 1) = d.next + 1 := by rw [IntKind.wrap_i64]; omega
          have HBN : Hid (bm.length = bm.length) := rfl
          clear o1 oM oT b10 HOW HGO hnA
          generalize hbN : bm.length = N at *
          have HBL : Hid (bm.length = N) := hbN
          clear hbN
          go_wp2
          refine bodyPost_ret (v := .agg #[.int .i64 0, .int .i64 d.next, .slice a5 l5 c5, .slice b5' 0 k5, .slice ga N gc, .slice p4 d.tables.length k4, .int .i64 (d.next + 1)]) (by simp [results, Tryz.results18, go_sem, v0, v1, v2, v3, v4, v5, v6, vf, vz10]) rfl ?_
          rw [HE.out]
          have hMm : Mod (fun b => b = w.heap.size + 1) w10 ((((((((w10).setCell ⟨w.heap.size + 1, 0, none⟩ (.int .i64 0)).setCell ⟨w.heap.size + 1, 1, none⟩ (.int .i64 d.next)).setCell ⟨w.heap.size + 1, 2, none⟩ (.slice a5 l5 c5)).setCell ⟨w.heap.size + 1, 3, none⟩ (.slice b5' 0 k5)).setCell ⟨w.heap.size + 1, 4, none⟩ (.slice ga N gc)).setCell ⟨w.heap.size + 1, 5, none⟩ (.slice p4 d.tables.length k4)).setCell ⟨w.heap.size + 1, 6, none⟩ (.int .i64 (d.next + 1))) := mset7 (F := fun b => b = w.heap.size + 1) (Mod.refl _ _) rfl _ _ _ _ _ _ _
          have hBm : Below w.heap.size w ((((((((w10).setCell ⟨w.heap.size + 1, 0, none⟩ (.int .i64 0)).setCell ⟨w.heap.size + 1, 1, none⟩ (.int .i64 d.next)).setCell ⟨w.heap.size + 1, 2, none⟩ (.slice a5 l5 c5)).setCell ⟨w.heap.size + 1, 3, none⟩ (.slice b5' 0 k5)).setCell ⟨w.heap.size + 1, 4, none⟩ (.slice ga N gc)).setCell ⟨w.heap.size + 1, 5, none⟩ (.slice p4 d.tables.length k4)).setCell ⟨w.heap.size + 1, 6, none⟩ (.int .i64 (d.next + 1))) := bset7 hB10 (by omega) _ _ _ _ _ _ _
          generalize (((((((w10).setCell ⟨w.heap.size + 1, 0, none⟩ (.int .i64 0)).setCell ⟨w.heap.size + 1, 1, none⟩ (.int .i64 d.next)).setCell ⟨w.heap.size + 1, 2, none⟩ (.slice a5 l5 c5)).setCell ⟨w.heap.size + 1, 3, none⟩ (.slice b5' 0 k5)).setCell ⟨w.heap.size + 1, 4, none⟩ (.slice ga N gc)).setCell ⟨w.heap.size + 1, 5, none⟩ (.slice p4 d.tables.length k4)).setCell ⟨w.heap.size + 1, 6, none⟩ (.int .i64 (d.next + 1)) = Wm at *
          have hMf := hMm.alloc (.cells #[.slice a5 l5 c5, .slice b5' 0 k5, .slice ga N gc, .slice p4 d.tables.length k4, .int .i64 (d.next + 1)] 35)
          have hBf : Below w.heap.size w (Wm.alloc (.cells #[.slice a5 l5 c5, .slice b5' 0 k5, .slice ga N gc, .slice p4 d.tables.length k4, .int .i64 (d.next + 1)] 35)) := balloc hBm _
          generalize Wm.alloc (.cells #[.slice a5 l5 c5, .slice b5' 0 k5, .slice ga N gc, .slice p4 d.tables.length k4, .int .i64 (d.next + 1)] 35) = Wf at *
          have hfin : ∃ F, engnR.O Wf W0.heap.size F (.agg #[.slice a5 l5 c5, .slice b5' 0 k5, .slice ga N gc, .slice p4 d.tables.length k4, .int .i64 (d.next + 1)]) ⟨synL true (batL d ws), bm, d.tables, d.next + 1⟩ := by
            refine ⟨_, _, _, _, _, F5, (fun b => (Value.slice ga N gc).ownBlock = some b), G3, rfl, loggR.mod HL10.out hMf (fun b hb e => by have := (HF7.out b hb).1; omega), ⟨⟨?_, rfl⟩, fit_small HSM.out⟩, rowssR.base (rowssR.mod HT10.out hMf (fun b hb e => by have := HG3.out b hb; omega)) (by omega), ?_, ?_, ?_, fun b => Iff.rfl⟩
            · have h := HM10.out
              rw [HBL.out]
              exact owns_base (hMf.owns h (fun b hb e => by have := HMR.out b hb; omega)) (by omega)
            · intro b h1 h2; have := HF7.out b h1; have := HMR.out b h2; omega
            · intro b h1 h2; have := HF7.out b h1; have := HG3.out b h2; omega
            · intro b h1 h2; have := HMR.out b h1; have := HG3.out b h2; omega
          obtain ⟨FE, hfin⟩ := hfin
          have hres := engRR.base (engR_of (e := ⟨synL true (batL d ws), bm, d.tables, d.next + 1⟩) 0 d.next hfin) (base' := w.heap.size) (by omega)
          first | exact ⟨_, _, rfl, hres, hBf⟩ | exact ⟨_, rfl, ⟨_, hres⟩, hBf⟩
end Go.Proofs.YtdfapehonegeeaaGreat

