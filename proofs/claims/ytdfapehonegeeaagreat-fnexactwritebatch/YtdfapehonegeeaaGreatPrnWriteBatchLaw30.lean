import Derived.Test.YtdfapehonegeeaaGreatPrnWriteBatchLaw28
import Derived.Test.YtdfapehonegeeaaGreatPrnWriteBatchLaw17
import Derived.Test.YtdfapehonegeeaaGreatPrnWriteBatchLaw22
import Derived.Test.YtdfapehonegeeaaGreatPrnWriteBatchLaw2
import Derived.Test.YtdfapehonegeeaaGreatPrnWriteBatchLaw6
import Derived.Test.YtdfapehonegeeaaGreatPrnWriteBatchLaw4
import Derived.Test.YtdfapehonegeeaaGreatPrnWriteBatchLaw1
import Derived.Deep.Slices
import Derived.Lib.SmallJoins

/-
  WriteBatch: the specification's side.
-/
namespace Go.Proofs.YtdfapehonegeeaaGreat
open Go.RowKit
set_option linter.unusedSectionVars false
variable [DecidableEq Wri] [Inhabited Wri] [DecidableEq BytesR] [Inhabited BytesR] [DecidableEq Rw] [Inhabited Rw] [DecidableEq TabR] [Inhabited TabR] [DecidableEq Logg] [Inhabited Logg] [DecidableEq Engn] [Inhabited Engn] [DecidableEq LoggR] [Inhabited LoggR] [DecidableEq RecsR] [Inhabited RecsR] [DecidableEq Leg] [Inhabited Leg] [DecidableEq EngR] [Inhabited EngR]
set_option linter.unusedVariables false
set_option linter.unusedSimpArgs false
attribute [local go_sem ↓] Go.wp_at_zero Go.wp_at_succ

def wbsC : Nat → List Nat
  | 11 => [10]
  | _ => []
def wbsG (d : Engn) (ws : List Wri) (base : Nat) : Nat → (Nat → Value) → (Nat → Prop) → World → Prop
  | 5, y, F, w => (∃ a c, y 38 = .slice a (packB d.next ws).length c) ∧ bytesR.O w base F (y 38) (packB d.next ws)
  | 6, y, F, w => ∃ a c b k, y 39 = .tuple #[.agg #[.slice a (batL d ws).synced.length c, .slice b (batL d ws).loose.length k], .int .i64 (logF (batL d ws))] ∧ loggR.O w base F (.agg #[.slice a (batL d ws).synced.length c, .slice b (batL d ws).loose.length k]) (batL d ws)
  | 7, y, F, _ => (∃ a c b k, y 32 = .tuple #[.agg #[.slice a (batL d ws).synced.length c, .slice b (batL d ws).loose.length k], .int .i64 (logF (batL d ws))]) ∧ y 32 = y 39 ∧ ∀ b, ¬ F b
  | 8, y, F, _ => (∃ a c b k, y 40 = .agg #[.slice a (batL d ws).synced.length c, .slice b (batL d ws).loose.length k]) ∧ y 32 = .tuple #[y 40, .int .i64 (logF (batL d ws))] ∧ ∀ b, ¬ F b
  | 9, y, F, _ => y 41 = .int .i64 (logF (batL d ws)) ∧ ∀ b, ¬ F b
  | 10, y, F, w => ∃ lo, y 10 = .pointer (some ⟨lo, 0, none⟩) ∧ w.cell? ⟨lo, 0, none⟩ = some (.slice none 0 0) ∧ w.cell? ⟨lo, 1, none⟩ = some (.slice none 0 0) ∧ (∀ o, w.frozen? ⟨lo, o, none⟩ = false) ∧ ∀ b, F b ↔ b = lo
  | 11, y, F, w => ∃ lo a c b k, y 10 = .pointer (some ⟨lo, 0, none⟩) ∧ y 40 = .agg #[.slice a (batL d ws).synced.length c, .slice b (batL d ws).loose.length k] ∧ w.cell? ⟨lo, 0, none⟩ = some (.slice a (batL d ws).synced.length c) ∧ w.cell? ⟨lo, 1, none⟩ = some (.slice b (batL d ws).loose.length k) ∧ (∀ o, w.frozen? ⟨lo, o, none⟩ = false) ∧ ∀ b, F b ↔ b = lo
  | _, _, _, _ => True
theorem writeE_e {d : Engn} {ws : List Wri} {s : Bool} (h : ¬ engF d = 0) : writeE d ws s = codeE (engF d) := by
  have h1 : batF d ws = engF d := by unfold batF; rw [if_pos h]
  rw [writeE_c (by rw [h1]; exact h), h1]
theorem writeE_w {d : Engn} {ws : List Wri} {s : Bool} (h0 : engF d = 0) (h : ¬ wrF ws = 0) : writeE d ws s = codeE (wrF ws) := by
  have h1 : batF d ws = wrF ws := by unfold batF; rw [if_neg (by simpa using h0), if_pos h]
  rw [writeE_c (by rw [h1]; exact h), h1]
theorem writeE_n {d : Engn} {ws : List Wri} {s : Bool} (h0 : engF d = 0) (h : wrF ws = 0) (hn : d.next = 1000000) : writeE d ws s = codeE 3 := by
  have h1 : batF d ws = 3 := by unfold batF; rw [if_neg (by simpa using h0), if_neg (by simpa using h), if_pos hn]
  rw [writeE_c (by rw [h1]; decide), h1]
theorem batF_0 {d : Engn} {ws : List Wri} (h0 : engF d = 0) (h : wrF ws = 0) (hn : ¬ d.next = 1000000) : batF d ws = 0 := by
  unfold batF; rw [if_neg (by simpa using h0), if_neg (by simpa using h), if_neg hn]
set_option maxRecDepth 20000 in
set_option maxHeartbeats 3000000 in
theorem specWb_u (x : Value) (d : Engn) (y : Value) (ws : List Wri) (s : Bool) (w : World) (hx : engnR.V w x d) (hn : wtEngn d ≤ 1048576) (hy : wrisR.V w y ws) :
    Calls Tryz.prog 16 #[x, y, .bool s] w fun e w' => ∃ v F, e = .returned v ∧ engRR.O w' w.heap.size F v (writeE d ws s) ∧ Below w.heap.size w w' := by
  have HX : Hid (engnR.V w x d) := hx
  obtain ⟨a1, a2, a3, a4, c1, c2, c3, c4, rfl⟩ := engn_form hx
  have HWT : Hid (wtEngn d ≤ 1048576) := hn
  clear hx
  go_enter Tryz.func16, Tryz.ntmps16
  go_wp2_with fail
  refine (specEngF_any _ d _ (engnR.below HX.out (by (repeat (first | exact Below.refl _ _ | assumption | refine Below.drew ?_ | refine balloc ?_ _ | refine bset ?_ (by simp; omega) _ | refine bset ?_ (by simp) _ | refine bstep ?_ (by assumption))))) hn).mono ?_
  rintro e w1 ⟨rfl, b1⟩
  have r0 : w1.cell? ⟨w.heap.size, 0, none⟩ = some (.slice a1 d.log.synced.length c1) := cell_keep b1 (by simp [go_sem])
  have r1 : w1.cell? ⟨w.heap.size, 1, none⟩ = some (.slice a2 d.log.loose.length c2) := cell_keep b1 (by simp [go_sem])
  have r2 : w1.cell? ⟨w.heap.size, 2, none⟩ = some (.slice a3 d.mem.length c3) := cell_keep b1 (by simp [go_sem])
  have r3 : w1.cell? ⟨w.heap.size, 3, none⟩ = some (.slice a4 d.tables.length c4) := cell_keep b1 (by simp [go_sem])
  have r4 : w1.cell? ⟨w.heap.size, 4, none⟩ = some (.int .i64 d.next) := cell_keep b1 (by simp [go_sem])
  have q0 : w1.cell? ⟨w.heap.size + 1, 0, none⟩ = some (.int .i64 0) := cell_keep b1 (by simp [go_sem])
  have q1 : w1.cell? ⟨w.heap.size + 1, 1, none⟩ = some (.int .i64 0) := cell_keep b1 (by simp [go_sem])
  have q2 : w1.cell? ⟨w.heap.size + 1, 2, none⟩ = some (.slice none 0 0) := cell_keep b1 (by simp [go_sem])
  have q3 : w1.cell? ⟨w.heap.size + 1, 3, none⟩ = some (.slice none 0 0) := cell_keep b1 (by simp [go_sem])
  have q4 : w1.cell? ⟨w.heap.size + 1, 4, none⟩ = some (.slice none 0 0) := cell_keep b1 (by simp [go_sem])
  have q5 : w1.cell? ⟨w.heap.size + 1, 5, none⟩ = some (.slice none 0 0) := cell_keep b1 (by simp [go_sem])
  have q6 : w1.cell? ⟨w.heap.size + 1, 6, none⟩ = some (.int .i64 0) := cell_keep b1 (by simp [go_sem])
  obtain ⟨qf, qz⟩ : (∀ o, w1.frozen? ⟨w.heap.size + 1, o, none⟩ = false) ∧ w.heap.size + 1 < w1.heap.size := by
    have h := b1.size
    simp only [World.size_alloc] at h
    exact ⟨fun o => by rw [(bcell b1).2 _ _ (by simp)]; simp [go_sem], by omega⟩
  have hB1 : Below w.heap.size w w1 := by (repeat (first | exact Below.refl _ _ | assumption | refine Below.drew ?_ | refine balloc ?_ _ | refine bset ?_ (by simp; omega) _ | refine bset ?_ (by simp) _ | refine bstep ?_ (by assumption)))
  clear b1 hn
  by_cases h0 : engF d = 0
  rotate_left
  · have HE : Hid (writeE d ws s = codeE (engF d)) := writeE_e h0
    have hc : (engF d == 0) = false := by simpa using h0
    generalize engF d = c at *
    go_wp2
    refine bodyPost_ret (v := .agg #[.int .i64 c, .int .i64 0, .slice none 0 0, .slice none 0 0, .slice none 0 0, .slice none 0 0, .int .i64 0]) (by simp [results, Tryz.results16, go_sem, q0, q1, q2, q3, q4, q5, q6, qf, qz]) rfl ?_
    rw [HE.out]
    first | exact ⟨_, rfl, ⟨_, engR_nil _ _ c 0 0⟩, by (repeat (first | refine bset ?_ (by simp; omega) _ | refine bset ?_ (by simp) _ | refine balloc ?_ _ | assumption))⟩ | exact ⟨_, _, rfl, engR_nil _ _ c 0 0, by (repeat (first | refine bset ?_ (by simp; omega) _ | refine bset ?_ (by simp) _ | refine balloc ?_ _ | assumption))⟩
  rw [h0]
  have HEF : Hid (engF d = 0) := h0
  clear h0
  have HY : Hid (wrisR.V w y ws) := hy
  clear hy
  go_wp2_with fail
  refine (specWf_any _ ws _ (wrisR.below HY.out hB1)).mono ?_
  rintro e w2 ⟨rfl, b2⟩
  replace r0 := cell_keep b2 r0
  replace r1 := cell_keep b2 r1
  replace r2 := cell_keep b2 r2
  replace r3 := cell_keep b2 r3
  replace r4 := cell_keep b2 r4
  replace q0 := cell_keep b2 q0
  replace q1 := cell_keep b2 q1
  replace q2 := cell_keep b2 q2
  replace q3 := cell_keep b2 q3
  replace q4 := cell_keep b2 q4
  replace q5 := cell_keep b2 q5
  replace q6 := cell_keep b2 q6
  obtain ⟨qf, qz⟩ := boxKeep ⟨qf, qz⟩ b2
  have hB2 := bstep hB1 b2
  clear b2 hB1
  by_cases hw : wrF ws = 0
  rotate_left
  · have HE : Hid (writeE d ws s = codeE (wrF ws)) := writeE_w HEF.out hw
    have hc : (wrF ws == 0) = false := by simpa using hw
    generalize wrF ws = c at *
    go_wp2
    refine bodyPost_ret (v := .agg #[.int .i64 c, .int .i64 0, .slice none 0 0, .slice none 0 0, .slice none 0 0, .slice none 0 0, .int .i64 0]) (by simp [results, Tryz.results16, go_sem, q0, q1, q2, q3, q4, q5, q6, qf, qz]) rfl ?_
    rw [HE.out]
    first | exact ⟨_, rfl, ⟨_, engR_nil _ _ c 0 0⟩, by (repeat (first | refine bset ?_ (by simp; omega) _ | refine bset ?_ (by simp) _ | refine balloc ?_ _ | assumption))⟩ | exact ⟨_, _, rfl, engR_nil _ _ c 0 0, by (repeat (first | refine bset ?_ (by simp; omega) _ | refine bset ?_ (by simp) _ | refine balloc ?_ _ | assumption))⟩
  rw [hw]
  by_cases hnx : d.next = 1000000
  · have HE : Hid (writeE d ws s = codeE 3) := writeE_n HEF.out hw hnx
    have hc : (d.next == 1000000) = true := by simpa using hnx
    clear hnx
    generalize d.next = nx at *
    go_wp2
    refine bodyPost_ret (v := .agg #[.int .i64 3, .int .i64 0, .slice none 0 0, .slice none 0 0, .slice none 0 0, .slice none 0 0, .int .i64 0]) (by simp [results, Tryz.results16, go_sem, q0, q1, q2, q3, q4, q5, q6, qf, qz]) rfl ?_
    rw [HE.out]
    first | exact ⟨_, rfl, ⟨_, engR_nil _ _ 3 0 0⟩, by (repeat (first | refine bset ?_ (by simp; omega) _ | refine bset ?_ (by simp) _ | refine balloc ?_ _ | assumption))⟩ | exact ⟨_, _, rfl, engR_nil _ _ 3 0 0, by (repeat (first | refine bset ?_ (by simp; omega) _ | refine bset ?_ (by simp) _ | refine balloc ?_ _ | assumption))⟩
  have hnc : (d.next == 1000000) = false := by simpa using hnx
  have HBF : Hid (batF d ws = 0) := batF_0 HEF.out hw hnx
  have HBO : Hid (BaOk d ws) := bat_ok HBF.out
  clear hw
  go_wp2_with fail
  refine (l6Copy_s _ d _ (engnR.below HX.out hB2) HWT.out).mono ?_
  rintro e w3 ⟨v3, F3, rfl, o3, ⟨p1, p2, g, p4, k1, k2, k3, k4, rfl⟩, b3⟩
  replace r0 := cell_keep b3 r0
  replace r1 := cell_keep b3 r1
  replace r2 := cell_keep b3 r2
  replace r3 := cell_keep b3 r3
  replace r4 := cell_keep b3 r4
  replace q0 := cell_keep b3 q0
  replace q1 := cell_keep b3 q1
  replace q2 := cell_keep b3 q2
  replace q3 := cell_keep b3 q3
  replace q4 := cell_keep b3 q4
  replace q5 := cell_keep b3 q5
  replace q6 := cell_keep b3 q6
  obtain ⟨qf, qz⟩ := boxKeep ⟨qf, qz⟩ b3
  have hB3 := bstep hB2 b3
  have hz23 := b3.size
  obtain ⟨u1, u2, u3, u4, G1, G2, G3, e, o1, oM, oT, d12, d13, d23, hF⟩ := o3
  simp only [Value.agg.injEq, Array.mk.injEq, List.cons.injEq, and_true] at e
  obtain ⟨rfl, rfl, rfl, rfl⟩ := e
  have HM3 : Hid (rowsR.O w3 w2.heap.size G2 (.slice (some ⟨g, 0, none⟩) d.mem.length k3) d.mem) := oM
  have HT3 : Hid (rowssR.O w3 w2.heap.size G3 (.slice p4 d.tables.length k4) d.tables) := oT
  have HGG : Hid (G2 g ∧ ¬ G3 g) := by
    have : G2 g := by rw [oM.1.2]; simp [Value.ownBlock]
    exact ⟨this, d23 g this⟩
  have HG3 : Hid (∀ b, G3 b → w2.heap.size ≤ b ∧ b < w3.heap.size) := fun b hb => rowssR.rng oT b hb
  have hgz : w2.heap.size ≤ g ∧ g < w3.heap.size := rowsR.rng oM g HGG.out.1
  clear o1 oM oT d12 d13 d23 hF b3 hB2
  have zr3 := World.block_lt_of_cell? _ _ r0
  dsimp only at zr3
  go_wp2
  have x0 : (w3.alloc (.cells #[.slice p1 d.log.synced.length k1, .slice p2 d.log.loose.length k2, .slice (some ⟨g, 0, none⟩) d.mem.length k3, .slice p4 d.tables.length k4, .int .i64 d.next] 35)).cell? ⟨w3.heap.size, 0, none⟩ = some (.slice p1 d.log.synced.length k1) := by simp [go_sem]
  have x1 : (w3.alloc (.cells #[.slice p1 d.log.synced.length k1, .slice p2 d.log.loose.length k2, .slice (some ⟨g, 0, none⟩) d.mem.length k3, .slice p4 d.tables.length k4, .int .i64 d.next] 35)).cell? ⟨w3.heap.size, 1, none⟩ = some (.slice p2 d.log.loose.length k2) := by simp [go_sem]
  have x2 : (w3.alloc (.cells #[.slice p1 d.log.synced.length k1, .slice p2 d.log.loose.length k2, .slice (some ⟨g, 0, none⟩) d.mem.length k3, .slice p4 d.tables.length k4, .int .i64 d.next] 35)).cell? ⟨w3.heap.size, 2, none⟩ = some (.slice (some ⟨g, 0, none⟩) d.mem.length k3) := by simp [go_sem]
  have x3 : (w3.alloc (.cells #[.slice p1 d.log.synced.length k1, .slice p2 d.log.loose.length k2, .slice (some ⟨g, 0, none⟩) d.mem.length k3, .slice p4 d.tables.length k4, .int .i64 d.next] 35)).cell? ⟨w3.heap.size, 3, none⟩ = some (.slice p4 d.tables.length k4) := by simp [go_sem]
  have x4 : (w3.alloc (.cells #[.slice p1 d.log.synced.length k1, .slice p2 d.log.loose.length k2, .slice (some ⟨g, 0, none⟩) d.mem.length k3, .slice p4 d.tables.length k4, .int .i64 d.next] 35)).cell? ⟨w3.heap.size, 4, none⟩ = some (.int .i64 d.next) := by simp [go_sem]
  have xf : ∀ o, (w3.alloc (.cells #[.slice p1 d.log.synced.length k1, .slice p2 d.log.loose.length k2, .slice (some ⟨g, 0, none⟩) d.mem.length k3, .slice p4 d.tables.length k4, .int .i64 d.next] 35)).frozen? ⟨w3.heap.size, o, none⟩ = false := fun o => by simp [go_sem]
  have hb34 : Below w3.heap.size w3 (w3.alloc (.cells #[.slice p1 d.log.synced.length k1, .slice p2 d.log.loose.length k2, .slice (some ⟨g, 0, none⟩) d.mem.length k3, .slice p4 d.tables.length k4, .int .i64 d.next] 35)) := balloc (Below.refl _ _) _
  have hz34 : w3.heap.size < (w3.alloc (.cells #[.slice p1 d.log.synced.length k1, .slice p2 d.log.loose.length k2, .slice (some ⟨g, 0, none⟩) d.mem.length k3, .slice p4 d.tables.length k4, .int .i64 d.next] 35)).heap.size := by simp
  generalize w3.alloc (.cells #[.slice p1 d.log.synced.length k1, .slice p2 d.log.loose.length k2, .slice (some ⟨g, 0, none⟩) d.mem.length k3, .slice p4 d.tables.length k4, .int .i64 d.next] 35) = w4 at *
  replace r0 := cell_keep hb34 r0
  replace r1 := cell_keep hb34 r1
  replace r2 := cell_keep hb34 r2
  replace r3 := cell_keep hb34 r3
  replace r4 := cell_keep hb34 r4
  replace q0 := cell_keep hb34 q0
  replace q1 := cell_keep hb34 q1
  replace q2 := cell_keep hb34 q2
  replace q3 := cell_keep hb34 q3
  replace q4 := cell_keep hb34 q4
  replace q5 := cell_keep hb34 q5
  replace q6 := cell_keep hb34 q6
  obtain ⟨qf, qz⟩ := boxKeep ⟨qf, qz⟩ hb34
  have hB4 := bstep hB3 hb34
  refine wp_region_noPanic ?_
  refine region_upto (fun w' => w'.cell? ⟨w.heap.size, 0, none⟩ = some (.slice a1 d.log.synced.length c1) ∧ w'.cell? ⟨w.heap.size, 1, none⟩ = some (.slice a2 d.log.loose.length c2) ∧ w'.cell? ⟨w.heap.size, 2, none⟩ = some (.slice a3 d.mem.length c3) ∧ w'.cell? ⟨w.heap.size, 3, none⟩ = some (.slice a4 d.tables.length c4) ∧ w'.cell? ⟨w.heap.size, 4, none⟩ = some (.int .i64 d.next)) 12 (by kernel_rfl) ⟨cell_keep (by (repeat (first | exact Below.refl _ _ | assumption | refine Below.drew ?_ | refine balloc ?_ _ | refine bset ?_ (by simp; omega) _ | refine bset ?_ (by simp) _ | refine bstep ?_ (by assumption)))) r0, cell_keep (by (repeat (first | exact Below.refl _ _ | assumption | refine Below.drew ?_ | refine balloc ?_ _ | refine bset ?_ (by simp; omega) _ | refine bset ?_ (by simp) _ | refine bstep ?_ (by assumption)))) r1, cell_keep (by (repeat (first | exact Below.refl _ _ | assumption | refine Below.drew ?_ | refine balloc ?_ _ | refine bset ?_ (by simp; omega) _ | refine bset ?_ (by simp) _ | refine bstep ?_ (by assumption)))) r2, cell_keep (by (repeat (first | exact Below.refl _ _ | assumption | refine Below.drew ?_ | refine balloc ?_ _ | refine bset ?_ (by simp; omega) _ | refine bset ?_ (by simp) _ | refine bstep ?_ (by assumption)))) r3, cell_keep (by (repeat (first | exact Below.refl _ _ | assumption | refine Below.drew ?_ | refine balloc ?_ _ | refine bset ?_ (by simp; omega) _ | refine bset ?_ (by simp) _ | refine bstep ?_ (by assumption)))) r4⟩ (fun hS => ?_)
  refine upto_take (i := 0) (v := ?_) rfl (by kernel_rfl) (by kernel_rfl) (by kernel_rfl) (by kernel_rfl) (fun _ _ _ h => h) (by rfl) hS ?_ ?_
  rotate_left
  · intro wS hSw
    try dsimp only at hSw
    first | (go_simp; done) | (go_simp; with_reducible rfl)
  try simp only [Act.put, List.getElem_toArray, List.getElem_cons_zero, List.getElem_cons_succ, List.setIfInBounds_toArray, List.set_cons_zero, List.set_cons_succ]
  refine upto_take (i := 1) (v := ?_) rfl (by kernel_rfl) (by kernel_rfl) (by kernel_rfl) (by kernel_rfl) (fun _ _ _ h => h) (by rfl) hS ?_ ?_
  rotate_left
  · intro wS hSw
    try dsimp only at hSw
    first | (go_simp; done) | (go_simp; with_reducible rfl)
  try simp only [Act.put, List.getElem_toArray, List.getElem_cons_zero, List.getElem_cons_succ, List.setIfInBounds_toArray, List.set_cons_zero, List.set_cons_succ]
  refine upto_take (i := 2) (v := ?_) rfl (by kernel_rfl) (by kernel_rfl) (by kernel_rfl) (by kernel_rfl) (fun _ _ _ h => h) (by rfl) hS ?_ ?_
  rotate_left
  · intro wS hSw
    try dsimp only at hSw
    first | (go_simp; done) | (go_simp; with_reducible rfl)
  try simp only [Act.put, List.getElem_toArray, List.getElem_cons_zero, List.getElem_cons_succ, List.setIfInBounds_toArray, List.set_cons_zero, List.set_cons_succ]
  refine upto_take (i := 3) (v := ?_) rfl (by kernel_rfl) (by kernel_rfl) (by kernel_rfl) (by kernel_rfl) (fun _ _ _ h => h) (by rfl) hS ?_ ?_
  rotate_left
  · intro wS hSw
    try dsimp only at hSw
    first | (go_simp; done) | (go_simp; with_reducible rfl)
  try simp only [Act.put, List.getElem_toArray, List.getElem_cons_zero, List.getElem_cons_succ, List.setIfInBounds_toArray, List.set_cons_zero, List.set_cons_succ]
  refine upto_take (i := 4) (v := ?_) rfl (by kernel_rfl) (by kernel_rfl) (by kernel_rfl) (by kernel_rfl) (fun _ _ _ h => h) (by rfl) hS ?_ ?_
  rotate_left
  · intro wS hSw
    try dsimp only at hSw
    first | (go_simp; done) | (go_simp; with_reducible rfl)
  try simp only [Act.put, List.getElem_toArray, List.getElem_cons_zero, List.getElem_cons_succ, List.setIfInBounds_toArray, List.set_cons_zero, List.set_cons_succ]
  have hb0 : Below w4.heap.size w4 w4.drew := Below.drew (Below.refl _ _)
  generalize w4.drew = W0 at *
  have hz40 := hb0.size
  have HVL : Hid (loggR.V w (.agg #[.slice a1 d.log.synced.length c1, .slice a2 d.log.loose.length c2]) d.log) := by
    obtain ⟨u1, u2, u3, u4, e, h, _, _⟩ := HX.out
    simp only [Value.agg.injEq, Array.mk.injEq, List.cons.injEq, and_true] at e
    obtain ⟨rfl, rfl, _, _⟩ := e
    exact h
  refine upto_dons' [(5, 38), (6, 39), (7, 32), (8, 40), (9, 41), (10, 10), (11, 99)] wbsC (wbsG d ws W0.heap.size) (by kernel_rfl) hS ?_ ?_ ?_ ?_
  · intro F W W' h hm hF
    have hne : ¬ F w.heap.size := fun e => by have := hF _ e; omega
    exact ⟨hm.cell h.1 hne, hm.cell h.2.1 hne, hm.cell h.2.2.1 hne, hm.cell h.2.2.2.1 hne, hm.cell h.2.2.2.2 hne⟩
  · intro pp hp
    simp only [List.mem_cons, List.not_mem_nil, or_false] at hp
    rcases hp with rfl | rfl | rfl | rfl | rfl | rfl | rfl
    all_goals
      intro y y' F F' W W' h hi hm hap hF e he
      simp only [wbsG] at h ⊢
    · rw [e]
      exact ⟨h.1, bytesR.mod h.2 hm (fun b hb hf => hap b hf hb)⟩
    · rw [e]
      obtain ⟨a, c, b, k, h1, h2⟩ := h
      exact ⟨a, c, b, k, h1, loggR.mod h2 hm (fun b hb hf => hap b hf hb)⟩
    · have e9 := he (6, 39) (by simp) (by kernel_rfl)
      rw [e, e9]
      exact h
    · have e9 := he (7, 32) (by simp) (by kernel_rfl)
      rw [e, e9]
      exact h
    · rw [e]
      exact h
    · obtain ⟨lo, h0, h1, h2, h3, h4⟩ := h
      rw [e]
      refine ⟨lo, h0, hm.cell h1 (fun x => hap _ x ((h4 _).2 rfl)), hm.cell h2 (fun x => hap _ x ((h4 _).2 rfl)), fun o => ?_, h4⟩
      exact (hm.frozen (a := ⟨lo, o, none⟩) (by have := World.block_lt_of_cell? _ _ h1; exact this) (fun x => hap _ x ((h4 _).2 rfl))).trans (h3 o)
    · obtain ⟨lo, a, c, b, k, h0, h1, h2, h3, h3f, h4⟩ := h
      have e13 := he (10, 10) (by simp) (by kernel_rfl)
      have e11 := he (8, 40) (by simp) (by kernel_rfl)
      rw [e13, e11]
      exact ⟨lo, a, c, b, k, h0, h1, hm.cell h2 (fun x => hap _ x ((h4 _).2 rfl)), hm.cell h3 (fun x => hap _ x ((h4 _).2 rfl)), fun o => (hm.frozen (a := ⟨lo, o, none⟩) (by have := World.block_lt_of_cell? _ _ h2; exact this) (fun x => hap _ x ((h4 _).2 rfl))).trans (h3f o), h4⟩
  · intro pp hp
    simp only [List.mem_cons, List.not_mem_nil, or_false] at hp
    rcases hp with rfl | rfl | rfl | rfl | rfl | rfl | rfl
    · refine ⟨_, rfl, .inl rfl, ?_⟩
      intro y W Φ hSW hBW hd K hK
      clear hd
      refine ⟨?_⟩
      simp only [over, Act.put, List.getElem_toArray, List.getElem_cons_zero, List.getElem_cons_succ, List.map_cons, List.map_nil, List.foldl_cons, List.foldl_nil, List.setIfInBounds_toArray, List.set_cons_zero, List.set_cons_succ, List.set_nil] at hK ⊢
      go_simp
      refine (l6Pack_any d.next _ ws _ (wrisR.below HY.out (bstep hB4 (bstep hb0 hBW))) HBO.out.w8).mono ?_
      rintro e w' ⟨r, F, rfl, o5, hb5⟩
      refine hK _ _ F (Mod.of_below hb5) (fun b hb => .inr (bytesR.rng o5 b hb)) ?_
      simp only [wbsG, updV]
      obtain ⟨av, cv, hv⟩ := bytes_form (bytesR.ofO o5)
      exact ⟨⟨av, cv, by simpa using hv⟩, by simpa using bytesR.base o5 hBW.size⟩
    · refine ⟨_, rfl, .inl rfl, ?_⟩
      intro y W Φ hSW hBW hd K hK
      have g5 := hd (5, 38) (by simp) (by kernel_rfl) (.inr (by simp [wbsC]))
      clear hd
      simp only [wbsG] at g5
      obtain ⟨-, ⟨ab, cb, e5⟩, o5⟩ := g5
      rw [e5] at o5
      refine ⟨?_⟩
      simp only [over, Act.put, List.getElem_toArray, List.getElem_cons_zero, List.getElem_cons_succ, List.map_cons, List.map_nil, List.foldl_cons, List.foldl_nil, List.setIfInBounds_toArray, List.set_cons_zero, List.set_cons_succ, List.set_nil] at hK ⊢
      simp only [e5] at hK ⊢
      go_simp
      refine (l4Append_any _ _ d.log (packB d.next ws) _ (loggR.below HVL.out (bstep hB4 (bstep hb0 hBW))) (bytesR.ofO o5) HBO.out.l6 HBO.out.b5).mono ?_
      rintro e w' ⟨v, F, rfl, o6, hb6⟩
      have o6' : loggR.O w' W.heap.size F v (batL d ws) := o6
      obtain ⟨a, b, c, k, rfl⟩ := logg_form (loggR.ofO o6')
      refine hK _ _ F (Mod.of_below hb6) (fun b hb => .inr (loggR.rng o6' b hb)) ?_
      simp only [wbsG, updV]
      exact ⟨a, c, b, k, by simp [batL], loggR.base o6' hBW.size⟩
    · refine ⟨_, rfl, .inl rfl, ?_⟩
      intro y W Φ hSW hBW hd K hK
      have g9 := hd (6, 39) (by simp) (by kernel_rfl) (.inr (by simp [wbsC]))
      clear hd
      simp only [wbsG] at g9
      obtain ⟨-, a, c, b, k, e0, -⟩ := g9
      refine ⟨?_⟩
      simp only [over, Act.put, List.getElem_toArray, List.getElem_cons_zero, List.getElem_cons_succ, List.map_cons, List.map_nil, List.foldl_cons, List.foldl_nil, List.setIfInBounds_toArray, List.set_cons_zero, List.set_cons_succ, List.set_nil] at hK ⊢
      simp only [e0] at hK ⊢
      go_simp
      refine hK _ _ (fun _ => False) (Mod.refl _ _) (fun b hb => hb.elim) ?_
      simp only [wbsG, updV]
      exact ⟨⟨a, c, b, k, by simp⟩, by simp [e0], fun b hb => hb⟩
    · refine ⟨_, rfl, .inl rfl, ?_⟩
      intro y W Φ hSW hBW hd K hK
      have g9 := hd (7, 32) (by simp) (by kernel_rfl) (.inr (by simp [wbsC]))
      clear hd
      simp only [wbsG] at g9
      obtain ⟨-, ⟨a, c, b, k, e0⟩, -⟩ := g9
      refine ⟨?_⟩
      simp only [over, Act.put, List.getElem_toArray, List.getElem_cons_zero, List.getElem_cons_succ, List.map_cons, List.map_nil, List.foldl_cons, List.foldl_nil, List.setIfInBounds_toArray, List.set_cons_zero, List.set_cons_succ, List.set_nil] at hK ⊢
      simp only [e0] at hK ⊢
      go_simp
      refine hK _ _ (fun _ => False) (Mod.refl _ _) (fun b hb => hb.elim) ?_
      simp only [wbsG, updV]
      exact ⟨⟨a, c, b, k, by simp⟩, by simp [e0], fun b hb => hb⟩
    · refine ⟨_, rfl, .inl rfl, ?_⟩
      intro y W Φ hSW hBW hd K hK
      have g9 := hd (7, 32) (by simp) (by kernel_rfl) (.inr (by simp [wbsC]))
      clear hd
      simp only [wbsG] at g9
      obtain ⟨-, ⟨a, c, b, k, e0⟩, -⟩ := g9
      refine ⟨?_⟩
      simp only [over, Act.put, List.getElem_toArray, List.getElem_cons_zero, List.getElem_cons_succ, List.map_cons, List.map_nil, List.foldl_cons, List.foldl_nil, List.setIfInBounds_toArray, List.set_cons_zero, List.set_cons_succ, List.set_nil] at hK ⊢
      simp only [e0] at hK ⊢
      go_simp
      refine hK _ _ (fun _ => False) (Mod.refl _ _) (fun b hb => hb.elim) ?_
      simp only [wbsG, updV]
      exact ⟨by simp, fun b hb => hb⟩
    · refine ⟨_, rfl, .inl rfl, ?_⟩
      intro y W Φ hSW hBW hd K hK
      clear hd
      refine ⟨?_⟩
      simp only [over, Act.put, List.getElem_toArray, List.getElem_cons_zero, List.getElem_cons_succ, List.map_cons, List.map_nil, List.foldl_cons, List.foldl_nil, List.setIfInBounds_toArray, List.set_cons_zero, List.set_cons_succ, List.set_nil] at hK ⊢
      go_simp
      refine hK _ _ (fun b => b = W.heap.size) (Mod.of_below (by (repeat (first | exact Below.refl _ _ | assumption | refine Below.drew ?_ | refine balloc ?_ _ | refine bset ?_ (by simp; omega) _ | refine bset ?_ (by simp) _ | refine bstep ?_ (by assumption))))) (fun b hb => .inr (by simp; omega)) ?_
      simp only [wbsG, updV]
      exact ⟨W.heap.size, by simp, by simp [go_sem], by simp [go_sem], fun o => by simp [go_sem], fun b => Iff.rfl⟩
    · refine ⟨_, rfl, .inr ⟨rfl, by simp⟩, ?_⟩
      intro y W Φ hSW hBW hd K hK
      have g11 := hd (8, 40) (by simp) (by kernel_rfl) (.inr (by simp [wbsC]))
      have g13 := hd (10, 10) (by simp) (by kernel_rfl) (.inl (by simp [wbsC]))
      clear hd
      simp only [wbsG] at g11 g13
      obtain ⟨-, ⟨a, c, b, k, e0⟩, -⟩ := g11
      obtain ⟨_, lo, e1, k0, k1, kf, fl⟩ := g13
      refine ⟨?_⟩
      simp only [over, Act.put, List.getElem_toArray, List.getElem_cons_zero, List.getElem_cons_succ, List.map_cons, List.map_nil, List.foldl_cons, List.foldl_nil, List.setIfInBounds_toArray, List.set_cons_zero, List.set_cons_succ, List.set_nil] at hK ⊢
      simp only [e0, e1] at hK ⊢
      go_simp
      refine hK undef _ (fun b => b = lo) (((Mod.of_set W ⟨lo, 0, none⟩ _).trans (Mod.of_set _ ⟨lo, 1, none⟩ _)).mono (fun b hb => ⟨10, by simp [wbsC], (fl b).2 hb⟩)) (fun b hb => .inl ⟨10, by simp [wbsC], (fl b).2 hb⟩) ?_
      simp only [wbsG, updV]
      exact ⟨lo, a, c, b, k, by simp [e1], by simp [e0], (set_other (by simp)).trans (set_same k0), set_same ((set_other (by simp)).trans k1), fun o => by simp [go_sem, kf], fun b => Iff.rfl⟩
  · refine ⟨_, rfl, ?_⟩
    intro y W Φ hSW hBW hd hap K hK
    have g6 := hd (6, 39) (by simp) (by simp [wbsC])
    have g7 := (hd (7, 32) (by simp) (by simp [wbsC])).2
    have g8 := (hd (8, 40) (by simp) (by simp [wbsC])).2
    have g9 := (hd (9, 41) (by simp) (by simp [wbsC])).2
    have g11 := hd (11, 99) (by simp) (by simp [wbsC])
    have hap' := hap (6, 39) (by simp) (11, 99) (by simp) (by simp) (by simp [wbsC]) (by simp [wbsC])
    clear hd hap
    simp only [wbsG] at g6 g7 g8 g9 g11
    obtain ⟨hI6, a, c, b, k, e39, o6⟩ := g6
    obtain ⟨-, e32, -⟩ := g7
    obtain ⟨-, e40, -⟩ := g8
    obtain ⟨e41, -⟩ := g9
    obtain ⟨hI11, BL, a', c', b', k', e10, e40', n0, n1, nf, f11⟩ := g11
    rw [e32, e39] at e40
    simp only [Value.tuple.injEq, Array.mk.injEq, List.cons.injEq, and_true] at e40
    rw [← e40] at e40'
    simp only [Value.agg.injEq, Array.mk.injEq, List.cons.injEq, and_true, Value.slice.injEq, true_and] at e40'
    obtain ⟨⟨rfl, rfl⟩, rfl, rfl⟩ := e40'
    have hnL : ¬ Φ 6 BL := fun h => hap' BL h ((f11 BL).2 rfl)
    have hlo := hI11 BL ((f11 BL).2 rfl)
    generalize (Φ 6) = F6 at *
    have hBWw : Below w4.heap.size w4 W := bstep hb0 hBW
    have hb3W : Below w3.heap.size w3 W := bstep hb34 hBWw
    have hBX : Below w.heap.size w W := bstep hB4 hBWw
    have hzW := hBW.size
    have r4 := cell_keep hBWw r4
    replace x0 := cell_keep hBWw x0
    replace x1 := cell_keep hBWw x1
    replace x2 := cell_keep hBWw x2
    replace x3 := cell_keep hBWw x3
    replace x4 := cell_keep hBWw x4
    replace q0 := cell_keep hBWw q0
    replace q1 := cell_keep hBWw q1
    replace q2 := cell_keep hBWw q2
    replace q3 := cell_keep hBWw q3
    replace q4 := cell_keep hBWw q4
    replace q5 := cell_keep hBWw q5
    replace q6 := cell_keep hBWw q6
    obtain ⟨xf, xz⟩ := boxKeep ⟨xf, hz34⟩ hBWw
    obtain ⟨qf, qz⟩ := boxKeep ⟨qf, qz⟩ hBWw
    have HMW : Hid (rowsR.O W w2.heap.size G2 (.slice (some ⟨g, 0, none⟩) d.mem.length k3) d.mem) := rowsR.keep HM3.out hb3W
    have HTW : Hid (rowssR.O W w2.heap.size G3 (.slice p4 d.tables.length k4) d.tables) := rowssR.keep HT3.out hb3W
    have HOW : Hid (loggR.O W W0.heap.size F6 (.agg #[.slice a (batL d ws).synced.length c, .slice b (batL d ws).loose.length k]) (batL d ws)) := o6
    have HF6 : Hid (∀ b, F6 b → W0.heap.size ≤ b ∧ b < W.heap.size) := fun b hb => loggR.rng o6 b hb
    have HNL : Hid (¬ F6 BL) := hnL
    have hwl : logF (batL d ws) = 0 → wtLogg (batL d ws) ≤ 6000 := wt_log
    have HWL : Hid (logF (batL d ws) = 0 → wtLogg (batL d ws) ≤ 6000) := hwl
    have HCL : Hid (¬ logF (batL d ws) = 0 → writeE d ws s = codeE 2) := writeE_l HBF.out
    have HV2 : Hid (¬ logF (batL d ws) = 0 → logF (batL d ws) = 2) := fun h => (logF_cases _).resolve_left (fun h1 => h h1.1)
    have HCM : Hid (logF (batL d ws) = 0 → 200 < (batM d ws).length → writeE d ws s = codeE 2) := fun h h1 => writeE_m HBF.out h h1
    have HCO : Hid (logF (batL d ws) = 0 → ¬ 200 < (batM d ws).length → writeE d ws s = ⟨0, d.next, ⟨synL s (batL d ws), batM d ws, d.tables, d.next + 1⟩⟩) := fun h h1 => writeE_ok HBF.out h h1
    refine ⟨?_⟩
    simp only [over, Act.put, List.getElem_toArray, List.getElem_cons_zero, List.getElem_cons_succ, List.map_cons, List.map_nil, List.foldl_cons, List.foldl_nil, List.setIfInBounds_toArray, List.set_cons_zero, List.set_cons_succ, List.set_nil]
    simp only [e41, e10]
    clear e32 e39 e40 e41 e10 hap' f11 hI6 hI11 o6 hnL hS hSW hBW hwl HM3 HT3 HX HVL
    generalize logF (batL d ws) = cc at *
    go_simp
    refine hK _ _ ?_
    clear hK K
    refine NoPanic.normal ?_
    by_cases hcc : cc = 0
    rotate_left
    · have HE : Hid (writeE d ws s = codeE 2) := HCL.out hcc
      have h2v := HV2.out hcc
      subst h2v
      clear HWL HCM HCO HCL HV2
      generalize (batL d ws).synced.length = l1 at *
      generalize (batL d ws).loose.length = l2 at *
      go_wp2
      refine bodyPost_ret (v := .agg #[.int .i64 2, .int .i64 0, .slice none 0 0, .slice none 0 0, .slice none 0 0, .slice none 0 0, .int .i64 0]) (by simp [results, Tryz.results16, go_sem, q0, q1, q2, q3, q4, q5, q6, qf, qz]) rfl ?_
      rw [HE.out]
      first | exact ⟨_, rfl, ⟨_, engR_nil _ _ 2 0 0⟩, bset7 hBX (by omega) _ _ _ _ _ _ _⟩ | exact ⟨_, _, rfl, engR_nil _ _ 2 0 0, bset7 hBX (by omega) _ _ _ _ _ _ _⟩
    have hwl := HWL.out hcc
    have HC1 : Hid (200 < (batM d ws).length → writeE d ws s = codeE 2) := HCM.out hcc
    have HC2 : Hid (¬ 200 < (batM d ws).length → writeE d ws s = ⟨0, d.next, ⟨synL s (batL d ws), batM d ws, d.tables, d.next + 1⟩⟩) := HCO.out hcc
    subst hcc
    clear HCL HCM HCO HWL HV2
    have hne1 : w.heap.size ≠ w3.heap.size := by omega
    have hne2 : w.heap.size + 1 ≠ w3.heap.size := by omega
    have hneB1 : w.heap.size ≠ BL := by omega
    have hneB2 : w.heap.size + 1 ≠ BL := by omega
    have hneB3 : w3.heap.size ≠ BL := by omega
    cases s with
    | false =>
      have hMY : Mod (fun b => b = w3.heap.size ∨ b = BL) W ((W.setCell ⟨w3.heap.size, 0, none⟩ (.slice a (batL d ws).synced.length c)).setCell ⟨w3.heap.size, 1, none⟩ (.slice b (batL d ws).loose.length k)) := mset (F := fun b => b = w3.heap.size ∨ b = BL) (mset (F := fun b => b = w3.heap.size ∨ b = BL) (Mod.refl _ _) ⟨w3.heap.size, 0, none⟩ _ (.inl rfl)) ⟨w3.heap.size, 1, none⟩ _ (.inl rfl)
      have hBY : Below w.heap.size w ((W.setCell ⟨w3.heap.size, 0, none⟩ (.slice a (batL d ws).synced.length c)).setCell ⟨w3.heap.size, 1, none⟩ (.slice b (batL d ws).loose.length k)) := hMY.below hBX hBX.size (fun b e => by omega)
      have hzY : ((W.setCell ⟨w3.heap.size, 0, none⟩ (.slice a (batL d ws).synced.length c)).setCell ⟨w3.heap.size, 1, none⟩ (.slice b (batL d ws).loose.length k)).heap.size = W.heap.size := by simp
      go_wp2_with fail
      refine (l6Rows_any d.next _ ws _ (wrisR.below HY.out hBY).1 (by have := HBO.out.w8; omega)).mono ?_
      rintro e w7 ⟨rv, rfl, oR, b7⟩
      have t0 : w7.cell? ⟨w3.heap.size, 0, none⟩ = some (.slice a (batL d ws).synced.length c) := cell_keep b7 (by simp [go_sem, x0, x1, x2, x3, x4, xf, n0, n1, nf, hneB3, Ne.symm hneB3])
      have t1 : w7.cell? ⟨w3.heap.size, 1, none⟩ = some (.slice b (batL d ws).loose.length k) := cell_keep b7 (by simp [go_sem, x0, x1, x2, x3, x4, xf, n0, n1, nf, hneB3, Ne.symm hneB3])
      have t2 : w7.cell? ⟨w3.heap.size, 2, none⟩ = some (.slice (some ⟨g, 0, none⟩) d.mem.length k3) := cell_keep b7 (by simp [go_sem, x0, x1, x2, x3, x4, xf, n0, n1, nf, hneB3, Ne.symm hneB3])
      have t3 : w7.cell? ⟨w3.heap.size, 3, none⟩ = some (.slice p4 d.tables.length k4) := cell_keep b7 (by simp [go_sem, x0, x1, x2, x3, x4, xf, n0, n1, nf, hneB3, Ne.symm hneB3])
      have t4 : w7.cell? ⟨w3.heap.size, 4, none⟩ = some (.int .i64 d.next) := cell_keep b7 (by simp [go_sem, x0, x1, x2, x3, x4, xf, n0, n1, nf, hneB3, Ne.symm hneB3])
      have tf : ∀ o, w7.frozen? ⟨w3.heap.size, o, none⟩ = false := fun o => by rw [(bcell b7).2 _ _ (by simpa using xz)]; simp [go_sem, xf, nf]
      have hM7 : Mod (fun b => b = w3.heap.size ∨ b = BL) W w7 := hMY.trans (Mod.of_below b7)
      have hz7 := hM7.size
      have hB7 : Below w.heap.size w w7 := hM7.below hBX hBX.size (fun b e => by omega)
      have s4 := hM7.cell r4 (fun e => e.elim hne1 hneB1)
      have v0 := hM7.cell q0 (fun e => e.elim hne2 hneB2)
      have v1 := hM7.cell q1 (fun e => e.elim hne2 hneB2)
      have v2 := hM7.cell q2 (fun e => e.elim hne2 hneB2)
      have v3 := hM7.cell q3 (fun e => e.elim hne2 hneB2)
      have v4 := hM7.cell q4 (fun e => e.elim hne2 hneB2)
      have v5 := hM7.cell q5 (fun e => e.elim hne2 hneB2)
      have v6 := hM7.cell q6 (fun e => e.elim hne2 hneB2)
      have vf : ∀ o, w7.frozen? ⟨w.heap.size + 1, o, none⟩ = false := fun o => (hM7.frozen (a := ⟨w.heap.size + 1, o, none⟩) qz (fun e => e.elim hne2 hneB2)).trans (qf o)
      have HL7 : Hid (loggR.O w7 W0.heap.size F6 (.agg #[.slice a (batL d ws).synced.length c, .slice b (batL d ws).loose.length k]) (batL d ws)) := loggR.mod HOW.out hM7 (fun b hb e => by have := (HF6.out b hb).1; exact e.elim (fun e => by omega) (fun e => HNL.out (e ▸ hb)))
      have HT7 : Hid (rowssR.O w7 w2.heap.size G3 (.slice p4 d.tables.length k4) d.tables) := rowssR.mod HTW.out hM7 (fun b hb e => by have := HG3.out b hb; omega)
      have HM7 : Hid (OutS w7 w2.heap.size (.slice (some ⟨g, 0, none⟩) d.mem.length k3) d.mem) := ⟨⟨g, k3, rfl⟩, (rowsR.mod HMW.out hM7 (fun b hb e => by have := rowsR.rng HMW.out b hb; have h3 := HMW.out.1.2; rw [h3] at hb; simp only [Value.ownBlock, Option.map_some, Option.some.injEq] at hb; omega)).1.1⟩
      have hll : (ws.map (wrRow d.next)).length = ws.length := List.length_map _
      have HBM : Hid (batM d ws = putsL d.mem (ws.map (wrRow d.next))) := rfl
      have HSM : Hid (∀ x ∈ batM d ws, rowFault x = 0) := HBO.out.sm
      have hm2 := HBO.out.m2
      have hw8 := HBO.out.w8
      have hnx := HBO.out.nx
      rw [← hll] at oR hw8
      obtain ⟨ar, cr, rfl⟩ := owns_form oR
      have HR7 : Hid (TabAt (fun b => W.heap.size ≤ b ∧ b < w7.heap.size) w7 (.slice ar (ws.map (wrRow d.next)).length cr) (ws.map (wrRow d.next))) := by
        have h := TabAt.owns oR
        rw [hzY] at h
        exact h
      clear hll oR b7 hMY hBY HMW HTW HOW x0 x1 x2 x3 x4 xf n0 n1 nf hzY
      generalize batM d ws = bm at *
      generalize ws.map (wrRow d.next) = l at *
      generalize hlw : l.length = lw at *
      have HLW : Hid (l.length = lw) := hlw
      clear hlw
      have HTA : Hid ((putsL d.mem (l.take lw)) = bm) := by rw [Hid, HBM.out, ← HLW.out, List.take_length]
      go_wp2
      go_loopw [13] (fun i W' => ∃ (j g' c' : Nat), j ≤ lw ∧ i = .int .i64 j ∧ (W'.cell? ⟨w3.heap.size, 0, none⟩ = some (.slice a (batL d ws).synced.length c) ∧ W'.cell? ⟨w3.heap.size, 1, none⟩ = some (.slice b (batL d ws).loose.length k) ∧ W'.cell? ⟨w3.heap.size, 2, none⟩ = some (.slice (some ⟨g', 0, none⟩) (putsL d.mem (l.take j)).length c') ∧ W'.cell? ⟨w3.heap.size, 3, none⟩ = some (.slice p4 d.tables.length k4) ∧ W'.cell? ⟨w3.heap.size, 4, none⟩ = some (.int .i64 d.next)) ∧ (∀ o, W'.frozen? ⟨w3.heap.size, o, none⟩ = false) ∧ Hid (OutS W' w2.heap.size (.slice (some ⟨g', 0, none⟩) (putsL d.mem (l.take j)).length c') (putsL d.mem (l.take j))) ∧ (g' = g ∨ w7.heap.size ≤ g') ∧ Mod (fun b => b = w3.heap.size) w7 W') (fun i _ => lw - (intOf i).toNat)
      case atStart => exact ⟨0, g, k3, Nat.zero_le _, rfl, ⟨t0, t1, t2, t3, t4⟩, tf, HM7, .inl rfl, Mod.refl _ _⟩
      case round =>
        obtain ⟨j, g', c', hj, rfl, ⟨m0, m1, m2, m3, m4⟩, mf, HO8, hg', hmw⟩ := hrel
        clear t0 t1 t2 t3 t4 tf
        have hj4 : (0 : Int) ≤ j := by omega
        have hz8 := hmw.size
        have hB8 : Below w.heap.size w wr := hmw.below hB7 hB7.size (fun b e => by omega)
        by_cases hjl : j < lw
        · have hTR := HR7.out.mod hmw (fun b hb e => by omega)
          obtain ⟨ar', cr', er, hcr, hmr, hrow⟩ := hTR
          simp only [Value.slice.injEq] at er
          obtain ⟨rfl, -, rfl⟩ := er
          obtain ⟨b8, o8, rfl, -, f0, f1, f2, f3⟩ := hrow j (by rw [HLW.out]; exact hjl)
          obtain ⟨r, hr⟩ : ∃ r, r = l.getD j default := ⟨_, rfl⟩
          rw [← hr] at f0 f1 f2 f3
          have HP : Hid ((putsL d.mem (l.take (j + 1))) = putL (putsL d.mem (l.take j)) r) := by
            rw [Hid, hr, ← take_snoc l (by rw [HLW.out]; exact hjl), putsL_snoc]
          have hyl : (putsL d.mem (l.take j)).length ≤ 1048000 := by
            have q1 := (length_putsL (l.take j) d.mem).2
            simp only [List.length_take] at q1
            omega
          clear hr hrow hcr hmr
          generalize (putsL d.mem (l.take j)) = ys at *
          have HC8 : Hid (∀ Y, Below wr.heap.size wr Y → Calls Tryz.prog 68 #[.slice (some ⟨g', 0, none⟩) ys.length c', rowV r] Y fun e w' => ∃ g2 c2, e = .returned (.slice (some ⟨g2, 0, none⟩) (putL ys r).length c2) ∧ OutS w' w2.heap.size (.slice (some ⟨g2, 0, none⟩) (putL ys r).length c2) (putL ys r) ∧ (g2 = g' ∨ Y.heap.size ≤ g2) ∧ Below Y.heap.size Y w') := fun Y hY => by
            have hO := HO8.out.below hY
            have hYs := hY.size
            refine (l5Put_any _ ys r Y (RowsV_of_owns hO.2) ⟨g', 0, c', rfl⟩ hyl).mono ?_
            rintro e w' ⟨q, hq, hb, h⟩
            rw [putK_putL ys r q hq] at h
            rcases h with ⟨e1, rfl⟩ | ⟨v, rfl, h⟩
            · rw [e1]
              exact ⟨g', c', rfl, hO.below hb, .inl rfl, hb⟩
            · have hp := putL_pos ys r
              rcases h.2 with ⟨_, h0⟩ | ⟨g2, cap, cur, rfl, _⟩
              · omega
              · exact ⟨g2, cap, rfl, ⟨⟨g2, cap, rfl⟩, owns_base h (by omega)⟩, .inr (h.lt g2 (by simp [Value.ownBlock])).1, hb⟩
          generalize hN4 : (putL ys r).length = N4 at *
          have HN4 : Hid ((putL ys r).length = N4) := hN4
          generalize hN1 : ys.length = N at *
          clear hN4 hN1
          unfold rowV at HC8
          have hj5 : (j : Int) < lw := by omega
          go_wp2
          refine wp_region_noPanic ?_
          refine region_upto (fun w' : World => w'.cell? ⟨w3.heap.size, 2, none⟩ = some (.slice (some ⟨g', 0, none⟩) N c') ∧ w'.cell? ⟨b8, o8 + j * 4, none⟩ = some (.string r.key) ∧ w'.cell? ⟨b8, o8 + j * 4 + 1, none⟩ = some (.int .i64 r.ver) ∧ w'.cell? ⟨b8, o8 + j * 4 + 2, none⟩ = some (.string r.val) ∧ w'.cell? ⟨b8, o8 + j * 4 + 3, none⟩ = some (.bool r.gone)) 8 (by kernel_rfl) ⟨cell_keep (by (repeat (first | exact Below.refl _ _ | assumption | refine Below.drew ?_ | refine balloc ?_ _ | refine bset ?_ (by simp; omega) _ | refine bset ?_ (by simp) _ | refine bstep ?_ (by assumption)))) m2, cell_keep (by (repeat (first | exact Below.refl _ _ | assumption | refine Below.drew ?_ | refine balloc ?_ _ | refine bset ?_ (by simp; omega) _ | refine bset ?_ (by simp) _ | refine bstep ?_ (by assumption)))) f0, cell_keep (by (repeat (first | exact Below.refl _ _ | assumption | refine Below.drew ?_ | refine balloc ?_ _ | refine bset ?_ (by simp; omega) _ | refine bset ?_ (by simp) _ | refine bstep ?_ (by assumption)))) f1, cell_keep (by (repeat (first | exact Below.refl _ _ | assumption | refine Below.drew ?_ | refine balloc ?_ _ | refine bset ?_ (by simp; omega) _ | refine bset ?_ (by simp) _ | refine bstep ?_ (by assumption)))) f2, cell_keep (by (repeat (first | exact Below.refl _ _ | assumption | refine Below.drew ?_ | refine balloc ?_ _ | refine bset ?_ (by simp; omega) _ | refine bset ?_ (by simp) _ | refine bstep ?_ (by assumption)))) f3⟩ (fun hS => ?_)
          refine upto_take (i := 0) (v := ?_) rfl (by kernel_rfl) (by kernel_rfl) (by kernel_rfl) (by kernel_rfl) (fun _ _ _ h => h) (by rfl) hS ?_ ?_
          rotate_left
          · intro wS hSw
            try dsimp only at hSw
            first | (go_simp; done) | (go_simp; with_reducible rfl)
          try simp only [Act.put, List.getElem_toArray, List.getElem_cons_zero, List.getElem_cons_succ, List.setIfInBounds_toArray, List.set_cons_zero, List.set_cons_succ]
          refine upto_take (i := 1) (v := ?_) rfl (by kernel_rfl) (by kernel_rfl) (by kernel_rfl) (by kernel_rfl) (fun _ _ _ h => h) (by rfl) hS ?_ ?_
          rotate_left
          · intro wS hSw
            try dsimp only at hSw
            first | (go_simp; done) | (go_simp; with_reducible rfl)
          try simp only [Act.put, List.getElem_toArray, List.getElem_cons_zero, List.getElem_cons_succ, List.setIfInBounds_toArray, List.set_cons_zero, List.set_cons_succ]
          refine upto_take (i := 2) (v := ?_) rfl (by kernel_rfl) (by kernel_rfl) (by kernel_rfl) (by kernel_rfl) (fun _ _ _ h => h) (by rfl) hS ?_ ?_
          rotate_left
          · intro wS hSw
            try dsimp only at hSw
            first | (go_simp; done) | (go_simp; with_reducible rfl)
          try simp only [Act.put, List.getElem_toArray, List.getElem_cons_zero, List.getElem_cons_succ, List.setIfInBounds_toArray, List.set_cons_zero, List.set_cons_succ]
          refine upto_take (i := 3) (v := ?_) rfl (by kernel_rfl) (by kernel_rfl) (by kernel_rfl) (by kernel_rfl) (fun _ _ _ h => h) (by rfl) hS ?_ ?_
          rotate_left
          · intro wS hSw
            try dsimp only at hSw
            first | (go_simp; done) | (go_simp; with_reducible rfl)
          try simp only [Act.put, List.getElem_toArray, List.getElem_cons_zero, List.getElem_cons_succ, List.setIfInBounds_toArray, List.set_cons_zero, List.set_cons_succ]
          refine upto_take (i := 4) (v := ?_) rfl (by kernel_rfl) (by kernel_rfl) (by kernel_rfl) (by kernel_rfl) (fun _ _ _ h => h) (by rfl) hS ?_ ?_
          rotate_left
          · intro wS hSw
            try dsimp only at hSw
            first | (go_simp; done) | (go_simp; with_reducible rfl)
          try simp only [Act.put, List.getElem_toArray, List.getElem_cons_zero, List.getElem_cons_succ, List.setIfInBounds_toArray, List.set_cons_zero, List.set_cons_succ]
          refine upto_take (i := 5) (v := ?_) rfl (by kernel_rfl) (by kernel_rfl) (by kernel_rfl) (by kernel_rfl) (fun _ _ _ h => h) (by rfl) hS ?_ ?_
          rotate_left
          · intro wS hSw
            try dsimp only at hSw
            first | (go_simp; done) | (go_simp; with_reducible rfl)
          try simp only [Act.put, List.getElem_toArray, List.getElem_cons_zero, List.getElem_cons_succ, List.setIfInBounds_toArray, List.set_cons_zero, List.set_cons_succ]
          refine upto_step (i := 6) (by kernel_rfl) rfl ?_
          intro K hK
          go_simp
          have hbd : Below wr.heap.size wr wr.drew := Below.drew (Below.refl _ _)
          refine (HC8.out _ hbd).mono ?_
          rintro e w8 ⟨g2, c2, rfl, hO9, hg2, b8'⟩
          have hS8 : (fun w' : World => w'.cell? ⟨w3.heap.size, 2, none⟩ = some (.slice (some ⟨g', 0, none⟩) N c') ∧ w'.cell? ⟨b8, o8 + j * 4, none⟩ = some (.string r.key) ∧ w'.cell? ⟨b8, o8 + j * 4 + 1, none⟩ = some (.int .i64 r.ver) ∧ w'.cell? ⟨b8, o8 + j * 4 + 2, none⟩ = some (.string r.val) ∧ w'.cell? ⟨b8, o8 + j * 4 + 3, none⟩ = some (.bool r.gone)) w8 := ⟨cell_keep b8' hS.1, cell_keep b8' hS.2.1, cell_keep b8' hS.2.2.1, cell_keep b8' hS.2.2.2.1, cell_keep b8' hS.2.2.2.2⟩
          refine hK _ _ (fun _ => hS8) ?_
          clear hK K
          try simp only [Act.put, List.getElem_toArray, List.getElem_cons_zero, List.getElem_cons_succ, List.setIfInBounds_toArray, List.set_cons_zero, List.set_cons_succ]
          refine upto_take (i := 7) (v := ?_) rfl (by kernel_rfl) (by kernel_rfl) (by kernel_rfl) (by kernel_rfl) (fun _ _ _ h => h) (by rfl) hS8 ?_ ?_
          rotate_left
          · intro wS hSw
            try dsimp only at hSw
            first | (go_simp; done) | (go_simp; with_reducible rfl)
          try simp only [Act.put, List.getElem_toArray, List.getElem_cons_zero, List.getElem_cons_succ, List.setIfInBounds_toArray, List.set_cons_zero, List.set_cons_succ]
          refine upto_step (i := 8) (by kernel_rfl) rfl ?_
          intro K hK
          have hbr := bstep hbd b8'
          have hzr := hbr.size
          have hx8 := (boxKeep ⟨mf, World.block_lt_of_cell? _ _ m0⟩ hbr).1
          go_simp
          refine hK _ _ (fun h => absurd rfl h) ?_
          clear hK K
          refine upto_done (by kernel_rfl) ?_
          refine NoPanic.normal ?_
          have y0 := cell_keep hbr m0
          have y1 := cell_keep hbr m1
          have y2 := cell_keep hbr m2
          have y3 := cell_keep hbr m3
          have y4 := cell_keep hbr m4
          have k0 : (w8.setCell ⟨w3.heap.size, 2, none⟩ (.slice (some ⟨g2, 0, none⟩) N4 c2)).cell? ⟨w3.heap.size, 0, none⟩ = some (.slice a (batL d ws).synced.length c) := by simp [go_sem, y0, y2, hx8]
          have k1' : (w8.setCell ⟨w3.heap.size, 2, none⟩ (.slice (some ⟨g2, 0, none⟩) N4 c2)).cell? ⟨w3.heap.size, 1, none⟩ = some (.slice b (batL d ws).loose.length k) := by simp [go_sem, y1, y2, hx8]
          have k2' : (w8.setCell ⟨w3.heap.size, 2, none⟩ (.slice (some ⟨g2, 0, none⟩) N4 c2)).cell? ⟨w3.heap.size, 2, none⟩ = some (.slice (some ⟨g2, 0, none⟩) N4 c2) := by simp [go_sem, y2, hx8]
          have k3' : (w8.setCell ⟨w3.heap.size, 2, none⟩ (.slice (some ⟨g2, 0, none⟩) N4 c2)).cell? ⟨w3.heap.size, 3, none⟩ = some (.slice p4 d.tables.length k4) := by simp [go_sem, y3, y2, hx8]
          have k4' : (w8.setCell ⟨w3.heap.size, 2, none⟩ (.slice (some ⟨g2, 0, none⟩) N4 c2)).cell? ⟨w3.heap.size, 4, none⟩ = some (.int .i64 d.next) := by simp [go_sem, y4, y2, hx8]
          have kf' : ∀ o, (w8.setCell ⟨w3.heap.size, 2, none⟩ (.slice (some ⟨g2, 0, none⟩) N4 c2)).frozen? ⟨w3.heap.size, o, none⟩ = false := fun o => by simp [go_sem, hx8]
          have hmd : Mod (fun b => b = w3.heap.size) w7 (w8.setCell ⟨w3.heap.size, 2, none⟩ (.slice (some ⟨g2, 0, none⟩) N4 c2)) := mset (F := fun b => b = w3.heap.size) (hmw.trans (Mod.of_below hbr)) ⟨w3.heap.size, 2, none⟩ _ rfl
          have hg3 : g2 = g ∨ w7.heap.size ≤ g2 := by
            have := hbd.size
            rcases hg2 with h | h
            · rw [h]; exact hg'
            · right; omega
          have HO10 : Hid (OutS (w8.setCell ⟨w3.heap.size, 2, none⟩ (.slice (some ⟨g2, 0, none⟩) N4 c2)) w2.heap.size (.slice (some ⟨g2, 0, none⟩) N4 c2) (putL ys r)) := by
            refine ⟨⟨g2, c2, by rw [HN4.out]⟩, (Mod.of_set w8 ⟨w3.heap.size, 2, none⟩ (.slice (some ⟨g2, 0, none⟩) N4 c2)).owns hO9.2 (fun b hb e => ?_)⟩
            simp only [Value.ownBlock, Option.map_some, Option.some.injEq] at hb
            have e' : b = w3.heap.size := e
            rcases hg3 with h | h
            · omega
            · omega
          clear hS hS8 m0 m1 m2 m3 m4 mf y0 y1 y2 y3 y4 hx8 f0 f1 f2 f3 HC8 hO9 hbr b8' hbd
          generalize (w8.setCell ⟨w3.heap.size, 2, none⟩ (.slice (some ⟨g2, 0, none⟩) N4 c2)) = Wn at *
          go_wp2
          refine ⟨⟨j + 1, g2, c2, by omega, by go_num, ?_, kf', ?_, hg3, hmd⟩, by simp [intOf]; omega⟩
          · rw [HP.out, HN4.out]
            exact ⟨k0, k1', k2', k3', k4'⟩
          · rw [HP.out, HN4.out]
            exact HO10
        · obtain rfl : j = lw := by omega
          have hj5 : ¬ (j : Int) < j := by omega
          rw [HTA.out] at m2 HO8
          have u4' := hmw.cell s4 hne1
          have hlN : bm.length ≤ 1048576 := by
            have q1 := (length_putsL l d.mem).2
            rw [← HBM.out, HLW.out] at q1
            omega
          have HFT : Hid (Fit bm) := fit_small HSM.out
          replace v0 := hmw.cell v0 hne2
          replace v1 := hmw.cell v1 hne2
          replace v2 := hmw.cell v2 hne2
          replace v3 := hmw.cell v3 hne2
          replace v4 := hmw.cell v4 hne2
          replace v5 := hmw.cell v5 hne2
          replace v6 := hmw.cell v6 hne2
          have wf : ∀ o, wr.frozen? ⟨w.heap.size + 1, o, none⟩ = false := fun o => (hmw.frozen (a := ⟨w.heap.size + 1, o, none⟩) (by show w.heap.size + 1 < w7.heap.size; omega) hne2).trans (vf o)
          have hzr : w.heap.size + 1 < wr.heap.size := by omega
          generalize hbN : bm.length = N at *
          have HBN : Hid (bm.length = N) := hbN
          clear hbN HR7 HTA
          by_cases h200 : 200 < N
          · have HE : Hid (writeE d ws false = codeE 2) := HC1.out h200
            have h2i : (200 : Int) < (N : Int) := by omega
            go_wp2
            refine bodyPost_ret (v := .agg #[.int .i64 2, .int .i64 0, .slice none 0 0, .slice none 0 0, .slice none 0 0, .slice none 0 0, .int .i64 0]) (by simp [results, Tryz.results16, go_sem, v0, v1, v2, v3, v4, v5, v6, wf, hzr]) rfl ?_
            rw [HE.out]
            first | exact ⟨_, rfl, ⟨_, engR_nil _ _ 2 0 0⟩, bset7 hB8 (by omega) _ _ _ _ _ _ _⟩ | exact ⟨_, _, rfl, engR_nil _ _ 2 0 0, bset7 hB8 (by omega) _ _ _ _ _ _ _⟩
          have HE : Hid (writeE d ws false = ⟨0, d.next, ⟨synL false (batL d ws), bm, d.tables, d.next + 1⟩⟩) := HC2.out h200
          have h2i : ¬ (200 : Int) < (N : Int) := by omega
          have hwr : IntKind.i64.wrap (d.next + 1) = d.next + 1 := by rw [IntKind.wrap_i64]; omega
          clear HC1 HC2
          go_wp2
          refine bodyPost_ret (v := .agg #[.int .i64 0, .int .i64 d.next, .slice a (batL d ws).synced.length c, .slice b (batL d ws).loose.length k, .slice (some ⟨g', 0, none⟩) N c', .slice p4 d.tables.length k4, .int .i64 (d.next + 1)]) (by simp [results, Tryz.results16, go_sem, v0, v1, v2, v3, v4, v5, v6, wf, hne2, Ne.symm hne2, m0, m1, m2, m3, m4, mf]) rfl ?_
          rw [HE.out]
          have hMf : Mod (fun b => b = w3.heap.size ∨ b = w.heap.size + 1) w7 ((((((((wr.setCell ⟨w3.heap.size, 4, none⟩ (.int .i64 (d.next + 1))).setCell ⟨w.heap.size + 1, 0, none⟩ (.int .i64 0)).setCell ⟨w.heap.size + 1, 1, none⟩ (.int .i64 d.next)).setCell ⟨w.heap.size + 1, 2, none⟩ (.slice a (batL d ws).synced.length c)).setCell ⟨w.heap.size + 1, 3, none⟩ (.slice b (batL d ws).loose.length k)).setCell ⟨w.heap.size + 1, 4, none⟩ (.slice (some ⟨g', 0, none⟩) N c')).setCell ⟨w.heap.size + 1, 5, none⟩ (.slice p4 d.tables.length k4)).setCell ⟨w.heap.size + 1, 6, none⟩ (.int .i64 (d.next + 1))) := mset7 (mset (hmw.mono (fun b e => .inl e)) ⟨w3.heap.size, 4, none⟩ _ (.inl rfl)) (.inr rfl) _ _ _ _ _ _ _
          have hMr : Mod (fun b => b = w3.heap.size ∨ b = w.heap.size + 1) wr ((((((((wr.setCell ⟨w3.heap.size, 4, none⟩ (.int .i64 (d.next + 1))).setCell ⟨w.heap.size + 1, 0, none⟩ (.int .i64 0)).setCell ⟨w.heap.size + 1, 1, none⟩ (.int .i64 d.next)).setCell ⟨w.heap.size + 1, 2, none⟩ (.slice a (batL d ws).synced.length c)).setCell ⟨w.heap.size + 1, 3, none⟩ (.slice b (batL d ws).loose.length k)).setCell ⟨w.heap.size + 1, 4, none⟩ (.slice (some ⟨g', 0, none⟩) N c')).setCell ⟨w.heap.size + 1, 5, none⟩ (.slice p4 d.tables.length k4)).setCell ⟨w.heap.size + 1, 6, none⟩ (.int .i64 (d.next + 1))) := mset7 (mset (Mod.refl _ _) ⟨w3.heap.size, 4, none⟩ _ (.inl rfl)) (.inr rfl) _ _ _ _ _ _ _
          have hBf : Below w.heap.size w ((((((((wr.setCell ⟨w3.heap.size, 4, none⟩ (.int .i64 (d.next + 1))).setCell ⟨w.heap.size + 1, 0, none⟩ (.int .i64 0)).setCell ⟨w.heap.size + 1, 1, none⟩ (.int .i64 d.next)).setCell ⟨w.heap.size + 1, 2, none⟩ (.slice a (batL d ws).synced.length c)).setCell ⟨w.heap.size + 1, 3, none⟩ (.slice b (batL d ws).loose.length k)).setCell ⟨w.heap.size + 1, 4, none⟩ (.slice (some ⟨g', 0, none⟩) N c')).setCell ⟨w.heap.size + 1, 5, none⟩ (.slice p4 d.tables.length k4)).setCell ⟨w.heap.size + 1, 6, none⟩ (.int .i64 (d.next + 1))) := bset7 (bset hB8 (by show w.heap.size ≤ w3.heap.size; omega) _) (by omega) _ _ _ _ _ _ _
          generalize (((((((wr.setCell ⟨w3.heap.size, 4, none⟩ (.int .i64 (d.next + 1))).setCell ⟨w.heap.size + 1, 0, none⟩ (.int .i64 0)).setCell ⟨w.heap.size + 1, 1, none⟩ (.int .i64 d.next)).setCell ⟨w.heap.size + 1, 2, none⟩ (.slice a (batL d ws).synced.length c)).setCell ⟨w.heap.size + 1, 3, none⟩ (.slice b (batL d ws).loose.length k)).setCell ⟨w.heap.size + 1, 4, none⟩ (.slice (some ⟨g', 0, none⟩) N c')).setCell ⟨w.heap.size + 1, 5, none⟩ (.slice p4 d.tables.length k4)).setCell ⟨w.heap.size + 1, 6, none⟩ (.int .i64 (d.next + 1)) = Wf at *
          have hfin : ∃ F, engnR.O Wf w2.heap.size F (.agg #[.slice a (batL d ws).synced.length c, .slice b (batL d ws).loose.length k, .slice (some ⟨g', 0, none⟩) N c', .slice p4 d.tables.length k4, .int .i64 (d.next + 1)]) ⟨synL false (batL d ws), bm, d.tables, d.next + 1⟩ := by
            refine ⟨_, _, _, _, _, F6, (fun b => b = g'), G3, rfl, loggR.base (loggR.mod HL7.out hMf (fun b hb e => by have := (HF6.out b hb).1; omega)) (by omega), ⟨⟨?_, ?_⟩, HFT.out⟩, rowssR.mod HT7.out hMf (fun b hb e => by have := HG3.out b hb; omega), ?_, ?_, ?_, fun b => Iff.rfl⟩
            · have h := HO8.out.2
              rw [HBN.out] at h
              refine hMr.owns (by rw [HBN.out]; exact h) (fun b hb e => ?_)
              simp only [Value.ownBlock, Option.map_some, Option.some.injEq] at hb
              omega
            · funext b
              simp only [Value.ownBlock, Option.map_some, Option.some.injEq]
              exact propext ⟨fun h => h.symm, fun h => h.symm⟩
            · intro b h1 h2; have := HF6.out b h1; omega
            · intro b h1 h2; have := HF6.out b h1; have := HG3.out b h2; omega
            · intro b h1 h2
              rcases hg' with h | h
              · have h3 := HGG.out.2
                rw [h1, h] at h2
                exact h3 h2
              · have := HG3.out b h2; omega
          obtain ⟨FE, hfin⟩ := hfin
          have hres := engRR.base (engR_of (e := ⟨synL false (batL d ws), bm, d.tables, d.next + 1⟩) 0 d.next hfin) (base' := w.heap.size) (by omega)
          first | exact ⟨_, _, rfl, hres, hBf⟩ | exact ⟨_, rfl, ⟨_, hres⟩, hBf⟩
    | true =>
      go_wp2_with fail
      refine (l4Sync_any _ (batL d ws) _ (loggR.ofO HOW.out) (by omega)).mono ?_
      rintro e w5 ⟨v5, F5, rfl, o5, b5⟩
      obtain ⟨a5, b5', c5, k5, rfl⟩ := logg_form (loggR.ofO o5)
      have HO5 : Hid (loggR.O w5 W0.heap.size F5 (.agg #[.slice a5 ((batL d ws).synced ++ (batL d ws).loose).length c5, .slice b5' 0 k5]) ⟨(batL d ws).synced ++ (batL d ws).loose, []⟩) := loggR.base o5 hzW
      have HF5 : Hid (∀ b, F5 b → W0.heap.size ≤ b ∧ b < w5.heap.size) := fun b hb => loggR.rng HO5.out b hb
      have HN5 : Hid (¬ F5 BL) := fun h => by have := (loggR.rng o5 BL h).1; omega
      have hz5 := b5.size
      have r4 := cell_keep b5 r4
      replace x0 := cell_keep b5 x0
      replace x1 := cell_keep b5 x1
      replace x2 := cell_keep b5 x2
      replace x3 := cell_keep b5 x3
      replace x4 := cell_keep b5 x4
      replace q0 := cell_keep b5 q0
      replace q1 := cell_keep b5 q1
      replace q2 := cell_keep b5 q2
      replace q3 := cell_keep b5 q3
      replace q4 := cell_keep b5 q4
      replace q5 := cell_keep b5 q5
      replace q6 := cell_keep b5 q6
      replace n0 := cell_keep b5 n0
      replace n1 := cell_keep b5 n1
      obtain ⟨nf, nz⟩ := boxKeep ⟨nf, hlo.2⟩ b5
      obtain ⟨xf, xz⟩ := boxKeep ⟨xf, xz⟩ b5
      obtain ⟨qf, qz⟩ := boxKeep ⟨qf, qz⟩ b5
      replace HMW : Hid (rowsR.O w5 w2.heap.size G2 (.slice (some ⟨g, 0, none⟩) d.mem.length k3) d.mem) := rowsR.keep HMW.out b5
      replace HTW : Hid (rowssR.O w5 w2.heap.size G3 (.slice p4 d.tables.length k4) d.tables) := rowssR.keep HTW.out b5
      replace hBX := bstep hBX b5
      simp only [List.length_nil] at *
      clear o5 HOW HF6 HNL b5
      generalize ((batL d ws).synced ++ (batL d ws).loose).length = l5 at *
      have hMY : Mod (fun b => b = w3.heap.size ∨ b = BL) w5 ((((w5.setCell ⟨BL, 0, none⟩ (.slice a5 l5 c5)).setCell ⟨BL, 1, none⟩ (.slice b5' 0 k5)).setCell ⟨w3.heap.size, 0, none⟩ (.slice a5 l5 c5)).setCell ⟨w3.heap.size, 1, none⟩ (.slice b5' 0 k5)) := mset (F := fun b => b = w3.heap.size ∨ b = BL) (mset (F := fun b => b = w3.heap.size ∨ b = BL) (mset (F := fun b => b = w3.heap.size ∨ b = BL) (mset (F := fun b => b = w3.heap.size ∨ b = BL) (Mod.refl _ _) ⟨BL, 0, none⟩ _ (.inr rfl)) ⟨BL, 1, none⟩ _ (.inr rfl)) ⟨w3.heap.size, 0, none⟩ _ (.inl rfl)) ⟨w3.heap.size, 1, none⟩ _ (.inl rfl)
      have hBY : Below w.heap.size w ((((w5.setCell ⟨BL, 0, none⟩ (.slice a5 l5 c5)).setCell ⟨BL, 1, none⟩ (.slice b5' 0 k5)).setCell ⟨w3.heap.size, 0, none⟩ (.slice a5 l5 c5)).setCell ⟨w3.heap.size, 1, none⟩ (.slice b5' 0 k5)) := hMY.below hBX hBX.size (fun b e => by omega)
      have hzY : ((((w5.setCell ⟨BL, 0, none⟩ (.slice a5 l5 c5)).setCell ⟨BL, 1, none⟩ (.slice b5' 0 k5)).setCell ⟨w3.heap.size, 0, none⟩ (.slice a5 l5 c5)).setCell ⟨w3.heap.size, 1, none⟩ (.slice b5' 0 k5)).heap.size = w5.heap.size := by simp
      go_wp2_with fail
      refine (l6Rows_any d.next _ ws _ (wrisR.below HY.out hBY).1 (by have := HBO.out.w8; omega)).mono ?_
      rintro e w7 ⟨rv, rfl, oR, b7⟩
      have t0 : w7.cell? ⟨w3.heap.size, 0, none⟩ = some (.slice a5 l5 c5) := cell_keep b7 (by simp [go_sem, x0, x1, x2, x3, x4, xf, n0, n1, nf, hneB3, Ne.symm hneB3])
      have t1 : w7.cell? ⟨w3.heap.size, 1, none⟩ = some (.slice b5' 0 k5) := cell_keep b7 (by simp [go_sem, x0, x1, x2, x3, x4, xf, n0, n1, nf, hneB3, Ne.symm hneB3])
      have t2 : w7.cell? ⟨w3.heap.size, 2, none⟩ = some (.slice (some ⟨g, 0, none⟩) d.mem.length k3) := cell_keep b7 (by simp [go_sem, x0, x1, x2, x3, x4, xf, n0, n1, nf, hneB3, Ne.symm hneB3])
      have t3 : w7.cell? ⟨w3.heap.size, 3, none⟩ = some (.slice p4 d.tables.length k4) := cell_keep b7 (by simp [go_sem, x0, x1, x2, x3, x4, xf, n0, n1, nf, hneB3, Ne.symm hneB3])
      have t4 : w7.cell? ⟨w3.heap.size, 4, none⟩ = some (.int .i64 d.next) := cell_keep b7 (by simp [go_sem, x0, x1, x2, x3, x4, xf, n0, n1, nf, hneB3, Ne.symm hneB3])
      have tf : ∀ o, w7.frozen? ⟨w3.heap.size, o, none⟩ = false := fun o => by rw [(bcell b7).2 _ _ (by simpa using xz)]; simp [go_sem, xf, nf]
      have hM7 : Mod (fun b => b = w3.heap.size ∨ b = BL) w5 w7 := hMY.trans (Mod.of_below b7)
      have hz7 := hM7.size
      have hB7 : Below w.heap.size w w7 := hM7.below hBX hBX.size (fun b e => by omega)
      have s4 := hM7.cell r4 (fun e => e.elim hne1 hneB1)
      have v0 := hM7.cell q0 (fun e => e.elim hne2 hneB2)
      have v1 := hM7.cell q1 (fun e => e.elim hne2 hneB2)
      have v2 := hM7.cell q2 (fun e => e.elim hne2 hneB2)
      have v3 := hM7.cell q3 (fun e => e.elim hne2 hneB2)
      have v4 := hM7.cell q4 (fun e => e.elim hne2 hneB2)
      have v5 := hM7.cell q5 (fun e => e.elim hne2 hneB2)
      have v6 := hM7.cell q6 (fun e => e.elim hne2 hneB2)
      have vf : ∀ o, w7.frozen? ⟨w.heap.size + 1, o, none⟩ = false := fun o => (hM7.frozen (a := ⟨w.heap.size + 1, o, none⟩) qz (fun e => e.elim hne2 hneB2)).trans (qf o)
      have HL7 : Hid (loggR.O w7 W0.heap.size F5 (.agg #[.slice a5 l5 c5, .slice b5' 0 k5]) ⟨(batL d ws).synced ++ (batL d ws).loose, []⟩) := loggR.mod HO5.out hM7 (fun b hb e => by have := (HF5.out b hb).1; exact e.elim (fun e => by omega) (fun e => HN5.out (e ▸ hb)))
      have HT7 : Hid (rowssR.O w7 w2.heap.size G3 (.slice p4 d.tables.length k4) d.tables) := rowssR.mod HTW.out hM7 (fun b hb e => by have := HG3.out b hb; omega)
      have HM7 : Hid (OutS w7 w2.heap.size (.slice (some ⟨g, 0, none⟩) d.mem.length k3) d.mem) := ⟨⟨g, k3, rfl⟩, (rowsR.mod HMW.out hM7 (fun b hb e => by have := rowsR.rng HMW.out b hb; have h3 := HMW.out.1.2; rw [h3] at hb; simp only [Value.ownBlock, Option.map_some, Option.some.injEq] at hb; omega)).1.1⟩
      have hll : (ws.map (wrRow d.next)).length = ws.length := List.length_map _
      have HBM : Hid (batM d ws = putsL d.mem (ws.map (wrRow d.next))) := rfl
      have HSM : Hid (∀ x ∈ batM d ws, rowFault x = 0) := HBO.out.sm
      have hm2 := HBO.out.m2
      have hw8 := HBO.out.w8
      have hnx := HBO.out.nx
      rw [← hll] at oR hw8
      obtain ⟨ar, cr, rfl⟩ := owns_form oR
      have HR7 : Hid (TabAt (fun b => w5.heap.size ≤ b ∧ b < w7.heap.size) w7 (.slice ar (ws.map (wrRow d.next)).length cr) (ws.map (wrRow d.next))) := by
        have h := TabAt.owns oR
        rw [hzY] at h
        exact h
      clear hll oR b7 hMY hBY HMW HTW HO5 x0 x1 x2 x3 x4 xf n0 n1 nf hzY
      generalize batM d ws = bm at *
      generalize ws.map (wrRow d.next) = l at *
      generalize hlw : l.length = lw at *
      have HLW : Hid (l.length = lw) := hlw
      clear hlw
      have HTA : Hid ((putsL d.mem (l.take lw)) = bm) := by rw [Hid, HBM.out, ← HLW.out, List.take_length]
      go_wp2
      go_loopw [13] (fun i W' => ∃ (j g' c' : Nat), j ≤ lw ∧ i = .int .i64 j ∧ (W'.cell? ⟨w3.heap.size, 0, none⟩ = some (.slice a5 l5 c5) ∧ W'.cell? ⟨w3.heap.size, 1, none⟩ = some (.slice b5' 0 k5) ∧ W'.cell? ⟨w3.heap.size, 2, none⟩ = some (.slice (some ⟨g', 0, none⟩) (putsL d.mem (l.take j)).length c') ∧ W'.cell? ⟨w3.heap.size, 3, none⟩ = some (.slice p4 d.tables.length k4) ∧ W'.cell? ⟨w3.heap.size, 4, none⟩ = some (.int .i64 d.next)) ∧ (∀ o, W'.frozen? ⟨w3.heap.size, o, none⟩ = false) ∧ Hid (OutS W' w2.heap.size (.slice (some ⟨g', 0, none⟩) (putsL d.mem (l.take j)).length c') (putsL d.mem (l.take j))) ∧ (g' = g ∨ w7.heap.size ≤ g') ∧ Mod (fun b => b = w3.heap.size) w7 W') (fun i _ => lw - (intOf i).toNat)
      case atStart => exact ⟨0, g, k3, Nat.zero_le _, rfl, ⟨t0, t1, t2, t3, t4⟩, tf, HM7, .inl rfl, Mod.refl _ _⟩
      case round =>
        obtain ⟨j, g', c', hj, rfl, ⟨m0, m1, m2, m3, m4⟩, mf, HO8, hg', hmw⟩ := hrel
        clear t0 t1 t2 t3 t4 tf
        have hj4 : (0 : Int) ≤ j := by omega
        have hz8 := hmw.size
        have hB8 : Below w.heap.size w wr := hmw.below hB7 hB7.size (fun b e => by omega)
        by_cases hjl : j < lw
        · have hTR := HR7.out.mod hmw (fun b hb e => by omega)
          obtain ⟨ar', cr', er, hcr, hmr, hrow⟩ := hTR
          simp only [Value.slice.injEq] at er
          obtain ⟨rfl, -, rfl⟩ := er
          obtain ⟨b8, o8, rfl, -, f0, f1, f2, f3⟩ := hrow j (by rw [HLW.out]; exact hjl)
          obtain ⟨r, hr⟩ : ∃ r, r = l.getD j default := ⟨_, rfl⟩
          rw [← hr] at f0 f1 f2 f3
          have HP : Hid ((putsL d.mem (l.take (j + 1))) = putL (putsL d.mem (l.take j)) r) := by
            rw [Hid, hr, ← take_snoc l (by rw [HLW.out]; exact hjl), putsL_snoc]
          have hyl : (putsL d.mem (l.take j)).length ≤ 1048000 := by
            have q1 := (length_putsL (l.take j) d.mem).2
            simp only [List.length_take] at q1
            omega
          clear hr hrow hcr hmr
          generalize (putsL d.mem (l.take j)) = ys at *
          have HC8 : Hid (∀ Y, Below wr.heap.size wr Y → Calls Tryz.prog 68 #[.slice (some ⟨g', 0, none⟩) ys.length c', rowV r] Y fun e w' => ∃ g2 c2, e = .returned (.slice (some ⟨g2, 0, none⟩) (putL ys r).length c2) ∧ OutS w' w2.heap.size (.slice (some ⟨g2, 0, none⟩) (putL ys r).length c2) (putL ys r) ∧ (g2 = g' ∨ Y.heap.size ≤ g2) ∧ Below Y.heap.size Y w') := fun Y hY => by
            have hO := HO8.out.below hY
            have hYs := hY.size
            refine (l5Put_any _ ys r Y (RowsV_of_owns hO.2) ⟨g', 0, c', rfl⟩ hyl).mono ?_
            rintro e w' ⟨q, hq, hb, h⟩
            rw [putK_putL ys r q hq] at h
            rcases h with ⟨e1, rfl⟩ | ⟨v, rfl, h⟩
            · rw [e1]
              exact ⟨g', c', rfl, hO.below hb, .inl rfl, hb⟩
            · have hp := putL_pos ys r
              rcases h.2 with ⟨_, h0⟩ | ⟨g2, cap, cur, rfl, _⟩
              · omega
              · exact ⟨g2, cap, rfl, ⟨⟨g2, cap, rfl⟩, owns_base h (by omega)⟩, .inr (h.lt g2 (by simp [Value.ownBlock])).1, hb⟩
          generalize hN4 : (putL ys r).length = N4 at *
          have HN4 : Hid ((putL ys r).length = N4) := hN4
          generalize hN1 : ys.length = N at *
          clear hN4 hN1
          unfold rowV at HC8
          have hj5 : (j : Int) < lw := by omega
          go_wp2
          refine wp_region_noPanic ?_
          refine region_upto (fun w' : World => w'.cell? ⟨w3.heap.size, 2, none⟩ = some (.slice (some ⟨g', 0, none⟩) N c') ∧ w'.cell? ⟨b8, o8 + j * 4, none⟩ = some (.string r.key) ∧ w'.cell? ⟨b8, o8 + j * 4 + 1, none⟩ = some (.int .i64 r.ver) ∧ w'.cell? ⟨b8, o8 + j * 4 + 2, none⟩ = some (.string r.val) ∧ w'.cell? ⟨b8, o8 + j * 4 + 3, none⟩ = some (.bool r.gone)) 8 (by kernel_rfl) ⟨cell_keep (by (repeat (first | exact Below.refl _ _ | assumption | refine Below.drew ?_ | refine balloc ?_ _ | refine bset ?_ (by simp; omega) _ | refine bset ?_ (by simp) _ | refine bstep ?_ (by assumption)))) m2, cell_keep (by (repeat (first | exact Below.refl _ _ | assumption | refine Below.drew ?_ | refine balloc ?_ _ | refine bset ?_ (by simp; omega) _ | refine bset ?_ (by simp) _ | refine bstep ?_ (by assumption)))) f0, cell_keep (by (repeat (first | exact Below.refl _ _ | assumption | refine Below.drew ?_ | refine balloc ?_ _ | refine bset ?_ (by simp; omega) _ | refine bset ?_ (by simp) _ | refine bstep ?_ (by assumption)))) f1, cell_keep (by (repeat (first | exact Below.refl _ _ | assumption | refine Below.drew ?_ | refine balloc ?_ _ | refine bset ?_ (by simp; omega) _ | refine bset ?_ (by simp) _ | refine bstep ?_ (by assumption)))) f2, cell_keep (by (repeat (first | exact Below.refl _ _ | assumption | refine Below.drew ?_ | refine balloc ?_ _ | refine bset ?_ (by simp; omega) _ | refine bset ?_ (by simp) _ | refine bstep ?_ (by assumption)))) f3⟩ (fun hS => ?_)
          refine upto_take (i := 0) (v := ?_) rfl (by kernel_rfl) (by kernel_rfl) (by kernel_rfl) (by kernel_rfl) (fun _ _ _ h => h) (by rfl) hS ?_ ?_
          rotate_left
          · intro wS hSw
            try dsimp only at hSw
            first | (go_simp; done) | (go_simp; with_reducible rfl)
          try simp only [Act.put, List.getElem_toArray, List.getElem_cons_zero, List.getElem_cons_succ, List.setIfInBounds_toArray, List.set_cons_zero, List.set_cons_succ]
          refine upto_take (i := 1) (v := ?_) rfl (by kernel_rfl) (by kernel_rfl) (by kernel_rfl) (by kernel_rfl) (fun _ _ _ h => h) (by rfl) hS ?_ ?_
          rotate_left
          · intro wS hSw
            try dsimp only at hSw
            first | (go_simp; done) | (go_simp; with_reducible rfl)
          try simp only [Act.put, List.getElem_toArray, List.getElem_cons_zero, List.getElem_cons_succ, List.setIfInBounds_toArray, List.set_cons_zero, List.set_cons_succ]
          refine upto_take (i := 2) (v := ?_) rfl (by kernel_rfl) (by kernel_rfl) (by kernel_rfl) (by kernel_rfl) (fun _ _ _ h => h) (by rfl) hS ?_ ?_
          rotate_left
          · intro wS hSw
            try dsimp only at hSw
            first | (go_simp; done) | (go_simp; with_reducible rfl)
          try simp only [Act.put, List.getElem_toArray, List.getElem_cons_zero, List.getElem_cons_succ, List.setIfInBounds_toArray, List.set_cons_zero, List.set_cons_succ]
          refine upto_take (i := 3) (v := ?_) rfl (by kernel_rfl) (by kernel_rfl) (by kernel_rfl) (by kernel_rfl) (fun _ _ _ h => h) (by rfl) hS ?_ ?_
          rotate_left
          · intro wS hSw
            try dsimp only at hSw
            first | (go_simp; done) | (go_simp; with_reducible rfl)
          try simp only [Act.put, List.getElem_toArray, List.getElem_cons_zero, List.getElem_cons_succ, List.setIfInBounds_toArray, List.set_cons_zero, List.set_cons_succ]
          refine upto_take (i := 4) (v := ?_) rfl (by kernel_rfl) (by kernel_rfl) (by kernel_rfl) (by kernel_rfl) (fun _ _ _ h => h) (by rfl) hS ?_ ?_
          rotate_left
          · intro wS hSw
            try dsimp only at hSw
            first | (go_simp; done) | (go_simp; with_reducible rfl)
          try simp only [Act.put, List.getElem_toArray, List.getElem_cons_zero, List.getElem_cons_succ, List.setIfInBounds_toArray, List.set_cons_zero, List.set_cons_succ]
          refine upto_take (i := 5) (v := ?_) rfl (by kernel_rfl) (by kernel_rfl) (by kernel_rfl) (by kernel_rfl) (fun _ _ _ h => h) (by rfl) hS ?_ ?_
          rotate_left
          · intro wS hSw
            try dsimp only at hSw
            first | (go_simp; done) | (go_simp; with_reducible rfl)
          try simp only [Act.put, List.getElem_toArray, List.getElem_cons_zero, List.getElem_cons_succ, List.setIfInBounds_toArray, List.set_cons_zero, List.set_cons_succ]
          refine upto_step (i := 6) (by kernel_rfl) rfl ?_
          intro K hK
          go_simp
          have hbd : Below wr.heap.size wr wr.drew := Below.drew (Below.refl _ _)
          refine (HC8.out _ hbd).mono ?_
          rintro e w8 ⟨g2, c2, rfl, hO9, hg2, b8'⟩
          have hS8 : (fun w' : World => w'.cell? ⟨w3.heap.size, 2, none⟩ = some (.slice (some ⟨g', 0, none⟩) N c') ∧ w'.cell? ⟨b8, o8 + j * 4, none⟩ = some (.string r.key) ∧ w'.cell? ⟨b8, o8 + j * 4 + 1, none⟩ = some (.int .i64 r.ver) ∧ w'.cell? ⟨b8, o8 + j * 4 + 2, none⟩ = some (.string r.val) ∧ w'.cell? ⟨b8, o8 + j * 4 + 3, none⟩ = some (.bool r.gone)) w8 := ⟨cell_keep b8' hS.1, cell_keep b8' hS.2.1, cell_keep b8' hS.2.2.1, cell_keep b8' hS.2.2.2.1, cell_keep b8' hS.2.2.2.2⟩
          refine hK _ _ (fun _ => hS8) ?_
          clear hK K
          try simp only [Act.put, List.getElem_toArray, List.getElem_cons_zero, List.getElem_cons_succ, List.setIfInBounds_toArray, List.set_cons_zero, List.set_cons_succ]
          refine upto_take (i := 7) (v := ?_) rfl (by kernel_rfl) (by kernel_rfl) (by kernel_rfl) (by kernel_rfl) (fun _ _ _ h => h) (by rfl) hS8 ?_ ?_
          rotate_left
          · intro wS hSw
            try dsimp only at hSw
            first | (go_simp; done) | (go_simp; with_reducible rfl)
          try simp only [Act.put, List.getElem_toArray, List.getElem_cons_zero, List.getElem_cons_succ, List.setIfInBounds_toArray, List.set_cons_zero, List.set_cons_succ]
          refine upto_step (i := 8) (by kernel_rfl) rfl ?_
          intro K hK
          have hbr := bstep hbd b8'
          have hzr := hbr.size
          have hx8 := (boxKeep ⟨mf, World.block_lt_of_cell? _ _ m0⟩ hbr).1
          go_simp
          refine hK _ _ (fun h => absurd rfl h) ?_
          clear hK K
          refine upto_done (by kernel_rfl) ?_
          refine NoPanic.normal ?_
          have y0 := cell_keep hbr m0
          have y1 := cell_keep hbr m1
          have y2 := cell_keep hbr m2
          have y3 := cell_keep hbr m3
          have y4 := cell_keep hbr m4
          have k0 : (w8.setCell ⟨w3.heap.size, 2, none⟩ (.slice (some ⟨g2, 0, none⟩) N4 c2)).cell? ⟨w3.heap.size, 0, none⟩ = some (.slice a5 l5 c5) := by simp [go_sem, y0, y2, hx8]
          have k1' : (w8.setCell ⟨w3.heap.size, 2, none⟩ (.slice (some ⟨g2, 0, none⟩) N4 c2)).cell? ⟨w3.heap.size, 1, none⟩ = some (.slice b5' 0 k5) := by simp [go_sem, y1, y2, hx8]
          have k2' : (w8.setCell ⟨w3.heap.size, 2, none⟩ (.slice (some ⟨g2, 0, none⟩) N4 c2)).cell? ⟨w3.heap.size, 2, none⟩ = some (.slice (some ⟨g2, 0, none⟩) N4 c2) := by simp [go_sem, y2, hx8]
          have k3' : (w8.setCell ⟨w3.heap.size, 2, none⟩ (.slice (some ⟨g2, 0, none⟩) N4 c2)).cell? ⟨w3.heap.size, 3, none⟩ = some (.slice p4 d.tables.length k4) := by simp [go_sem, y3, y2, hx8]
          have k4' : (w8.setCell ⟨w3.heap.size, 2, none⟩ (.slice (some ⟨g2, 0, none⟩) N4 c2)).cell? ⟨w3.heap.size, 4, none⟩ = some (.int .i64 d.next) := by simp [go_sem, y4, y2, hx8]
          have kf' : ∀ o, (w8.setCell ⟨w3.heap.size, 2, none⟩ (.slice (some ⟨g2, 0, none⟩) N4 c2)).frozen? ⟨w3.heap.size, o, none⟩ = false := fun o => by simp [go_sem, hx8]
          have hmd : Mod (fun b => b = w3.heap.size) w7 (w8.setCell ⟨w3.heap.size, 2, none⟩ (.slice (some ⟨g2, 0, none⟩) N4 c2)) := mset (F := fun b => b = w3.heap.size) (hmw.trans (Mod.of_below hbr)) ⟨w3.heap.size, 2, none⟩ _ rfl
          have hg3 : g2 = g ∨ w7.heap.size ≤ g2 := by
            have := hbd.size
            rcases hg2 with h | h
            · rw [h]; exact hg'
            · right; omega
          have HO10 : Hid (OutS (w8.setCell ⟨w3.heap.size, 2, none⟩ (.slice (some ⟨g2, 0, none⟩) N4 c2)) w2.heap.size (.slice (some ⟨g2, 0, none⟩) N4 c2) (putL ys r)) := by
            refine ⟨⟨g2, c2, by rw [HN4.out]⟩, (Mod.of_set w8 ⟨w3.heap.size, 2, none⟩ (.slice (some ⟨g2, 0, none⟩) N4 c2)).owns hO9.2 (fun b hb e => ?_)⟩
            simp only [Value.ownBlock, Option.map_some, Option.some.injEq] at hb
            have e' : b = w3.heap.size := e
            rcases hg3 with h | h
            · omega
            · omega
          clear hS hS8 m0 m1 m2 m3 m4 mf y0 y1 y2 y3 y4 hx8 f0 f1 f2 f3 HC8 hO9 hbr b8' hbd
          generalize (w8.setCell ⟨w3.heap.size, 2, none⟩ (.slice (some ⟨g2, 0, none⟩) N4 c2)) = Wn at *
          go_wp2
          refine ⟨⟨j + 1, g2, c2, by omega, by go_num, ?_, kf', ?_, hg3, hmd⟩, by simp [intOf]; omega⟩
          · rw [HP.out, HN4.out]
            exact ⟨k0, k1', k2', k3', k4'⟩
          · rw [HP.out, HN4.out]
            exact HO10
        · obtain rfl : j = lw := by omega
          have hj5 : ¬ (j : Int) < j := by omega
          rw [HTA.out] at m2 HO8
          have u4' := hmw.cell s4 hne1
          have hlN : bm.length ≤ 1048576 := by
            have q1 := (length_putsL l d.mem).2
            rw [← HBM.out, HLW.out] at q1
            omega
          have HFT : Hid (Fit bm) := fit_small HSM.out
          replace v0 := hmw.cell v0 hne2
          replace v1 := hmw.cell v1 hne2
          replace v2 := hmw.cell v2 hne2
          replace v3 := hmw.cell v3 hne2
          replace v4 := hmw.cell v4 hne2
          replace v5 := hmw.cell v5 hne2
          replace v6 := hmw.cell v6 hne2
          have wf : ∀ o, wr.frozen? ⟨w.heap.size + 1, o, none⟩ = false := fun o => (hmw.frozen (a := ⟨w.heap.size + 1, o, none⟩) (by show w.heap.size + 1 < w7.heap.size; omega) hne2).trans (vf o)
          have hzr : w.heap.size + 1 < wr.heap.size := by omega
          generalize hbN : bm.length = N at *
          have HBN : Hid (bm.length = N) := hbN
          clear hbN HR7 HTA
          by_cases h200 : 200 < N
          · have HE : Hid (writeE d ws true = codeE 2) := HC1.out h200
            have h2i : (200 : Int) < (N : Int) := by omega
            go_wp2
            refine bodyPost_ret (v := .agg #[.int .i64 2, .int .i64 0, .slice none 0 0, .slice none 0 0, .slice none 0 0, .slice none 0 0, .int .i64 0]) (by simp [results, Tryz.results16, go_sem, v0, v1, v2, v3, v4, v5, v6, wf, hzr]) rfl ?_
            rw [HE.out]
            first | exact ⟨_, rfl, ⟨_, engR_nil _ _ 2 0 0⟩, bset7 hB8 (by omega) _ _ _ _ _ _ _⟩ | exact ⟨_, _, rfl, engR_nil _ _ 2 0 0, bset7 hB8 (by omega) _ _ _ _ _ _ _⟩
          have HE : Hid (writeE d ws true = ⟨0, d.next, ⟨synL true (batL d ws), bm, d.tables, d.next + 1⟩⟩) := HC2.out h200
          have h2i : ¬ (200 : Int) < (N : Int) := by omega
          have hwr : IntKind.i64.wrap (d.next + 1) = d.next + 1 := by rw [IntKind.wrap_i64]; omega
          clear HC1 HC2
          go_wp2
          refine bodyPost_ret (v := .agg #[.int .i64 0, .int .i64 d.next, .slice a5 l5 c5, .slice b5' 0 k5, .slice (some ⟨g', 0, none⟩) N c', .slice p4 d.tables.length k4, .int .i64 (d.next + 1)]) (by simp [results, Tryz.results16, go_sem, v0, v1, v2, v3, v4, v5, v6, wf, hne2, Ne.symm hne2, m0, m1, m2, m3, m4, mf]) rfl ?_
          rw [HE.out]
          have hMf : Mod (fun b => b = w3.heap.size ∨ b = w.heap.size + 1) w7 ((((((((wr.setCell ⟨w3.heap.size, 4, none⟩ (.int .i64 (d.next + 1))).setCell ⟨w.heap.size + 1, 0, none⟩ (.int .i64 0)).setCell ⟨w.heap.size + 1, 1, none⟩ (.int .i64 d.next)).setCell ⟨w.heap.size + 1, 2, none⟩ (.slice a5 l5 c5)).setCell ⟨w.heap.size + 1, 3, none⟩ (.slice b5' 0 k5)).setCell ⟨w.heap.size + 1, 4, none⟩ (.slice (some ⟨g', 0, none⟩) N c')).setCell ⟨w.heap.size + 1, 5, none⟩ (.slice p4 d.tables.length k4)).setCell ⟨w.heap.size + 1, 6, none⟩ (.int .i64 (d.next + 1))) := mset7 (mset (hmw.mono (fun b e => .inl e)) ⟨w3.heap.size, 4, none⟩ _ (.inl rfl)) (.inr rfl) _ _ _ _ _ _ _
          have hMr : Mod (fun b => b = w3.heap.size ∨ b = w.heap.size + 1) wr ((((((((wr.setCell ⟨w3.heap.size, 4, none⟩ (.int .i64 (d.next + 1))).setCell ⟨w.heap.size + 1, 0, none⟩ (.int .i64 0)).setCell ⟨w.heap.size + 1, 1, none⟩ (.int .i64 d.next)).setCell ⟨w.heap.size + 1, 2, none⟩ (.slice a5 l5 c5)).setCell ⟨w.heap.size + 1, 3, none⟩ (.slice b5' 0 k5)).setCell ⟨w.heap.size + 1, 4, none⟩ (.slice (some ⟨g', 0, none⟩) N c')).setCell ⟨w.heap.size + 1, 5, none⟩ (.slice p4 d.tables.length k4)).setCell ⟨w.heap.size + 1, 6, none⟩ (.int .i64 (d.next + 1))) := mset7 (mset (Mod.refl _ _) ⟨w3.heap.size, 4, none⟩ _ (.inl rfl)) (.inr rfl) _ _ _ _ _ _ _
          have hBf : Below w.heap.size w ((((((((wr.setCell ⟨w3.heap.size, 4, none⟩ (.int .i64 (d.next + 1))).setCell ⟨w.heap.size + 1, 0, none⟩ (.int .i64 0)).setCell ⟨w.heap.size + 1, 1, none⟩ (.int .i64 d.next)).setCell ⟨w.heap.size + 1, 2, none⟩ (.slice a5 l5 c5)).setCell ⟨w.heap.size + 1, 3, none⟩ (.slice b5' 0 k5)).setCell ⟨w.heap.size + 1, 4, none⟩ (.slice (some ⟨g', 0, none⟩) N c')).setCell ⟨w.heap.size + 1, 5, none⟩ (.slice p4 d.tables.length k4)).setCell ⟨w.heap.size + 1, 6, none⟩ (.int .i64 (d.next + 1))) := bset7 (bset hB8 (by show w.heap.size ≤ w3.heap.size; omega) _) (by omega) _ _ _ _ _ _ _
          generalize (((((((wr.setCell ⟨w3.heap.size, 4, none⟩ (.int .i64 (d.next + 1))).setCell ⟨w.heap.size + 1, 0, none⟩ (.int .i64 0)).setCell ⟨w.heap.size + 1, 1, none⟩ (.int .i64 d.next)).setCell ⟨w.heap.size + 1, 2, none⟩ (.slice a5 l5 c5)).setCell ⟨w.heap.size + 1, 3, none⟩ (.slice b5' 0 k5)).setCell ⟨w.heap.size + 1, 4, none⟩ (.slice (some ⟨g', 0, none⟩) N c')).setCell ⟨w.heap.size + 1, 5, none⟩ (.slice p4 d.tables.length k4)).setCell ⟨w.heap.size + 1, 6, none⟩ (.int .i64 (d.next + 1)) = Wf at *
          have hfin : ∃ F, engnR.O Wf w2.heap.size F (.agg #[.slice a5 l5 c5, .slice b5' 0 k5, .slice (some ⟨g', 0, none⟩) N c', .slice p4 d.tables.length k4, .int .i64 (d.next + 1)]) ⟨synL true (batL d ws), bm, d.tables, d.next + 1⟩ := by
            refine ⟨_, _, _, _, _, F5, (fun b => b = g'), G3, rfl, loggR.base (loggR.mod HL7.out hMf (fun b hb e => by have := (HF5.out b hb).1; omega)) (by omega), ⟨⟨?_, ?_⟩, HFT.out⟩, rowssR.mod HT7.out hMf (fun b hb e => by have := HG3.out b hb; omega), ?_, ?_, ?_, fun b => Iff.rfl⟩
            · have h := HO8.out.2
              rw [HBN.out] at h
              refine hMr.owns (by rw [HBN.out]; exact h) (fun b hb e => ?_)
              simp only [Value.ownBlock, Option.map_some, Option.some.injEq] at hb
              omega
            · funext b
              simp only [Value.ownBlock, Option.map_some, Option.some.injEq]
              exact propext ⟨fun h => h.symm, fun h => h.symm⟩
            · intro b h1 h2; have := HF5.out b h1; omega
            · intro b h1 h2; have := HF5.out b h1; have := HG3.out b h2; omega
            · intro b h1 h2
              rcases hg' with h | h
              · have h3 := HGG.out.2
                rw [h1, h] at h2
                exact h3 h2
              · have := HG3.out b h2; omega
          obtain ⟨FE, hfin⟩ := hfin
          have hres := engRR.base (engR_of (e := ⟨synL true (batL d ws), bm, d.tables, d.next + 1⟩) 0 d.next hfin) (base' := w.heap.size) (by omega)
          first | exact ⟨_, _, rfl, hres, hBf⟩ | exact ⟨_, rfl, ⟨_, hres⟩, hBf⟩
end Go.Proofs.YtdfapehonegeeaaGreat

/-
  Marks of rows of Write. (Written by program: strow.py.)
-/
namespace Go.Proofs.YtdfapehonegeeaaGreat
open Go.RowKit
set_option linter.unusedSectionVars false
variable [DecidableEq Wri] [Inhabited Wri]
set_option linter.unusedVariables false
set_option linter.unusedSimpArgs false
attribute [local go_sem ↓] Go.wp_at_zero Go.wp_at_succ

def wriMark (k : Int) (i : Nat) : Wri := ⟨markT (k + 3 * i), markT (k + 3 * i + 1), (k + 3 * i + 1 + 1) % 3 == 0⟩
def wriMarks (k : Int) (n : Nat) : List Wri := (List.range n).map (wriMark k)
theorem length_wriMarks (k : Int) (n : Nat) : (wriMarks k n).length = n := by simp [wriMarks]
theorem getD_wriMarks (k : Int) (n i : Nat) (h : i < n) : (wriMarks k n).getD i default = wriMark k i := by simp [wriMarks, List.getD, h]
theorem wriMarks_fit {k : Int} {n : Nat} (h0 : 0 ≤ k) (h : k + 3 * n ≤ 1073741824) : FitWri (wriMarks k n) := by
  intro i hi
  rw [length_wriMarks] at hi
  rw [getD_wriMarks k n i hi]
  have g0 := markT_size (k + 3 * i)
  have g1 := markT_size (k + 3 * i + 1)
  unfold wriMark maxLen
  dsimp only
  omega
set_option maxRecDepth 100000 in
set_option maxHeartbeats 2000000 in
theorem markWriteS_any (v : Value) (n : Nat) (cs : List Value) (base e : Nat) (k : Int) (w : World) (ho : w.ownsRow base e 3 v n cs) (hn : n ≤ 1048576) (hk0 : 0 ≤ k) (hk1 : k + 3 * n ≤ 1073741824) :
    Calls Tryz.prog 22 #[v, .int .i64 k] w fun r w' => r = .returned (.int .i64 (k + 3 * n)) ∧ w'.ownsRow base e 3 v n (wrisC (wriMarks k n)) ∧ w.grownBy w' v.ownBlock := by
  rcases ho.2 with ⟨rfl, rfl⟩ | ⟨g, cap, cur, rfl, hb, hg, hnc, hcm, _, _⟩
  · go_enter Tryz.func22, Tryz.ntmps22
    go_wp2
    go_loopw [1, 5] (fun q i w' => q = .int .i64 k ∧ i = .int .i64 0 ∧ w' = w) (fun _ _ _ => 0)
    case atStart => exact ⟨rfl, rfl, rfl⟩
    case round =>
      obtain ⟨rfl, rfl, rfl⟩ := hrel
      go_wp2
      go_ret
      exact ⟨by simp, World.ownsRow_nil _ _ _ _, ⟨rfl, rfl, rfl, Nat.le_refl _, fun _ _ _ => rfl⟩⟩
  · unfold maxLen at hcm
    go_enter Tryz.func22, Tryz.ntmps22
    go_wp2
    go_loopw [1, 5] (fun q i w' => ∃ (j : Nat) (cs' : List Value), j ≤ n ∧ i = .int .i64 j ∧ q = .int .i64 (k + 3 * j) ∧ w'.ownsRow base e 3 (.slice (some ⟨g, 0, none⟩) n cap) n cs' ∧ Hid (wrisUpto j cs' (wriMarks k n)) ∧ w.grownBy w' (some g)) (fun _ i _ => n - (intOf i).toNat)
    case atStart => exact ⟨0, cs, Nat.zero_le _, rfl, by simp, ho, fun j h => by omega, ⟨rfl, rfl, rfl, Nat.le_refl _, fun _ _ _ => rfl⟩⟩
    case round =>
      obtain ⟨j, cs', hj, rfl, rfl, ho1, HU, hgr⟩ := hrel
      clear ho hg
      by_cases hlt : j < n
      · have hjn : (j : Int) < n := by omega
        go_wp2_with fail
        refine (markText_any (k + 3 * j) _ (by omega) (by omega)).mono ?_
        rintro r wa0 ⟨rfl, hba0⟩
        have hoo0 := owns_below ho1 hba0
        obtain ⟨u0, g0⟩ := owns_some hoo0 (j * 3) (by omega)
        have hf0 := fun j => hoo0.frozenAt j
        have hz0 := World.block_lt_of_cell? _ _ g0
        dsimp only at hz0
        generalize hT0 : markT (k + 3 * j) = T0 at *
        have HT0 : Hid (markT (k + 3 * j) = T0) := hT0
        clear hT0
        have s0 := hoo0.stored (j * 3) (.string T0)
        go_wp2_with fail
        refine (markText_any (k + 3 * j + 1) _ (by omega) (by omega)).mono ?_
        rintro r wa1 ⟨rfl, hba1⟩
        have hoo1 := owns_below s0.1 hba1
        obtain ⟨u1, g1⟩ := owns_some hoo1 (j * 3 + 1) (by omega)
        obtain ⟨u2, g2⟩ := owns_some hoo1 (j * 3 + 2) (by omega)
        have hf1 := fun j => hoo1.frozenAt j
        have hz1 := World.block_lt_of_cell? _ _ g1
        dsimp only at hz1
        generalize hT1 : markT (k + 3 * j + 1) = T1 at *
        have HT1 : Hid (markT (k + 3 * j + 1) = T1) := hT1
        clear hT1
        have s1 := hoo1.stored (j * 3 + 1) (.string T1)
        have s2 := s1.1.stored (j * 3 + 2) (.bool ((k + 3 * j + 1 + 1) % 3 == 0))
        go_wp2
        refine ⟨⟨j + 1, _, by omega, by go_num, by congr 1; omega, s2.1, ?_, ?_⟩, by simp [intOf]; omega⟩
        · exact wrisUpto_set (x := ⟨T0, T1, (k + 3 * j + 1 + 1) % 3 == 0⟩) HU.out (by rw [length_wriMarks]; exact hlt) (by rw [length_wriMarks]; exact ho1.1) (by rw [getD_wriMarks k n j hlt, ← HT0.out, ← HT1.out]; rfl)
        · exact grownTrans (grownTrans (grownTrans (grownTrans (grownTrans (hgr) (grownAny (grown_of_below hba0))) s0.2) (grownAny (grown_of_below hba1))) s1.2) s2.2
      · go_wp2
        go_ret
        have hjn : j = n := by omega
        subst hjn
        have e' := wrisUpto_full HU.out ho1.1 (length_wriMarks k j)
        rw [e'] at ho1
        exact ⟨rfl, ho1, hgr⟩
def cntWris (xs : List Wri) : Nat := 3 * xs.length
def mkWris (k : Int) (xs : List Wri) : List Wri := wriMarks k xs.length
theorem wris_cnt (d : List Wri) : cntWris d ≤ 3 * wtWris d := by unfold cntWris wtWris; omega
theorem markWriteS_u (v : Value) (d : List Wri) (base : Nat) (F : Nat → Prop) (k : Int) (w : World) (ho : wrisR.O w base F v d) (hw : wtWris d ≤ 1048576) (hn : k + cntWris d ≤ 1073741824) (hk0 : 0 ≤ k) :
    Calls Tryz.prog 22 #[v, .int .i64 k] w fun r w' => r = .returned (.int .i64 (k + cntWris d)) ∧ wrisR.O w' base F v (mkWris k d) ∧ Mod F w w' := by
  refine (markWriteS_any v d.length _ base _ k w ho.1.1 (by unfold wtWris at hw; omega) hk0 (by unfold cntWris at hn; omega)).mono ?_
  rintro e w' ⟨rfl, h1, h2⟩
  refine ⟨by simp [cntWris], ⟨⟨?_, ho.1.2⟩, wriMarks_fit hk0 (by unfold cntWris at hn; omega)⟩, by rw [ho.1.2]; exact Mod.of_grown h2⟩
  unfold mkWris
  rw [length_wriMarks]
  exact h1
end Go.Proofs.YtdfapehonegeeaaGreat

/-
  Cells that are kept: many. (Written by program.)
-/
namespace Go.Proofs.YtdfapehonegeeaaGreat
open Go.RowKit
theorem keepN24 {w w' : World} {a0 : Addr} {x0 : Value} {a1 : Addr} {x1 : Value} {a2 : Addr} {x2 : Value} {a3 : Addr} {x3 : Value} {a4 : Addr} {x4 : Value} {a5 : Addr} {x5 : Value} {a6 : Addr} {x6 : Value} {a7 : Addr} {x7 : Value} {a8 : Addr} {x8 : Value} {a9 : Addr} {x9 : Value} {a10 : Addr} {x10 : Value} {a11 : Addr} {x11 : Value} {a12 : Addr} {x12 : Value} {a13 : Addr} {x13 : Value} {a14 : Addr} {x14 : Value} {a15 : Addr} {x15 : Value} {a16 : Addr} {x16 : Value} {a17 : Addr} {x17 : Value} {a18 : Addr} {x18 : Value} {a19 : Addr} {x19 : Value} {a20 : Addr} {x20 : Value} {a21 : Addr} {x21 : Value} {a22 : Addr} {x22 : Value} {a23 : Addr} {x23 : Value} (hb : Below w.heap.size w w') (g0 : w.cell? a0 = some x0) (g1 : w.cell? a1 = some x1) (g2 : w.cell? a2 = some x2) (g3 : w.cell? a3 = some x3) (g4 : w.cell? a4 = some x4) (g5 : w.cell? a5 = some x5) (g6 : w.cell? a6 = some x6) (g7 : w.cell? a7 = some x7) (g8 : w.cell? a8 = some x8) (g9 : w.cell? a9 = some x9) (g10 : w.cell? a10 = some x10) (g11 : w.cell? a11 = some x11) (g12 : w.cell? a12 = some x12) (g13 : w.cell? a13 = some x13) (g14 : w.cell? a14 = some x14) (g15 : w.cell? a15 = some x15) (g16 : w.cell? a16 = some x16) (g17 : w.cell? a17 = some x17) (g18 : w.cell? a18 = some x18) (g19 : w.cell? a19 = some x19) (g20 : w.cell? a20 = some x20) (g21 : w.cell? a21 = some x21) (g22 : w.cell? a22 = some x22) (g23 : w.cell? a23 = some x23) : Below w.heap.size w w' ∧ w'.cell? a0 = some x0 ∧ w'.cell? a1 = some x1 ∧ w'.cell? a2 = some x2 ∧ w'.cell? a3 = some x3 ∧ w'.cell? a4 = some x4 ∧ w'.cell? a5 = some x5 ∧ w'.cell? a6 = some x6 ∧ w'.cell? a7 = some x7 ∧ w'.cell? a8 = some x8 ∧ w'.cell? a9 = some x9 ∧ w'.cell? a10 = some x10 ∧ w'.cell? a11 = some x11 ∧ w'.cell? a12 = some x12 ∧ w'.cell? a13 = some x13 ∧ w'.cell? a14 = some x14 ∧ w'.cell? a15 = some x15 ∧ w'.cell? a16 = some x16 ∧ w'.cell? a17 = some x17 ∧ w'.cell? a18 = some x18 ∧ w'.cell? a19 = some x19 ∧ w'.cell? a20 = some x20 ∧ w'.cell? a21 = some x21 ∧ w'.cell? a22 = some x22 ∧ w'.cell? a23 = some x23 :=
  ⟨hb, cell_keep hb g0, cell_keep hb g1, cell_keep hb g2, cell_keep hb g3, cell_keep hb g4, cell_keep hb g5, cell_keep hb g6, cell_keep hb g7, cell_keep hb g8, cell_keep hb g9, cell_keep hb g10, cell_keep hb g11, cell_keep hb g12, cell_keep hb g13, cell_keep hb g14, cell_keep hb g15, cell_keep hb g16, cell_keep hb g17, cell_keep hb g18, cell_keep hb g19, cell_keep hb g20, cell_keep hb g21, cell_keep hb g22, cell_keep hb g23⟩
end Go.Proofs.YtdfapehonegeeaaGreat

/-
  What is handed in, read as data, is data in memory: rows and structs of rows.
-/
namespace Go.Proofs.YtdfapehonegeeaaGreat
open Go.ChangeShapes Go.WideShapes Go.ChangeAt Go.RowKit Go.Joins

theorem spot_none {W : World} {base k : Nat} {a : Addr} {cs : List Value} (hk : 0 < k) (hc : W.cells? base a k = some cs) : a.spot = none := by
  obtain ⟨hb, hl, hcell⟩ := World.cells?_some hc
  have q0 := hcell 0 hk
  obtain ⟨b, o, s⟩ := a
  cases s with
  | none => rfl
  | some s =>
    have : 0 < cs.length := by omega
    simp [Addr.add, World.cell?, this] at q0
    split at q0 <;> simp at q0
theorem add_plain (b o i : Nat) : (Addr.mk b o none).add i = ⟨b, o + i, none⟩ := by
  by_cases h : i = 0
  · subst h; simp [Addr.add]
  · simp [Addr.add, h]
theorem openRow {H : Type} {enc : TypeId × Value → H} {W : World} {sp : Nat → Bool} {held : Bool} {n : Nat} {v : Value} {y : DataW H × List MemPlace} {t e size : Nat} {α : Type} [Inhabited α] {q : List Value → α → Prop}
    (ht : Tryz.prog.underlying t = some (.slice e)) (hz : Tryz.prog.cellsOf e = size) (hs : 0 < size)
    (hq : ∀ n cs y, DataW.trod enc Tryz.prog W 0 sp held n e cs = some y → cs.length = size → ∃ x, q cs x) (h : DataW.trod enc Tryz.prog W 0 sp held n t [v] = some y) :
    ∃ (a : Option Addr) (cap : Nat) (xs : List α) (cs : Nat → List Value), v = .slice a xs.length cap ∧ xs.length ≤ cap ∧ cap ≤ maxLen ∧ ∀ i, i < xs.length → q (cs i) (xs.getD i default) ∧ (cs i).length = size ∧ ∃ b o, a = some ⟨b, o, none⟩ ∧ ∀ j, j < size → W.cell? ⟨b, o + i * size + j, none⟩ = (cs i)[j]? := by
  rcases Go.Deep.open_slice ht h with ⟨hcs, _⟩ | ⟨a, len, cap, m, n', D, Pl, hcs, hb, hl, hm, hmm, _, hc⟩
  · simp at hcs
    subst hcs
    exact ⟨none, 0, [], fun _ => [], rfl, by simp, by unfold maxLen; omega, fun i hi => by simp at hi⟩
  · simp at hcs
    subst hcs
    have hlm : len ≤ m := by rw [hmm]; split <;> omega
    rw [hz] at hc
    have h1 : ∀ i, i < len → ∃ z : List Value × α, q z.1 z.2 ∧ z.1.length = size ∧ ∃ b o, a = ⟨b, o, none⟩ ∧ ∀ j, j < size → W.cell? ⟨b, o + i * size + j, none⟩ = z.1[j]? := by
      intro i hi
      obtain ⟨cs', h1, h2⟩ := hc i (by omega)
      obtain ⟨_, hl', hcell⟩ := World.cells?_some h1
      obtain ⟨x, hx⟩ := hq _ _ _ h2 hl'
      obtain ⟨cs0, k1, _⟩ := hc 0 (by omega)
      have hsp := spot_none hs k1
      obtain ⟨b, o, s⟩ := a
      have hs0 : s = none := by simpa [Addr.add] using hsp
      subst hs0
      refine ⟨(cs', x), hx, hl', b, o, rfl, fun j hj => ?_⟩
      have := hcell j hj
      rw [add_plain, add_plain] at this
      exact this
    obtain ⟨f, hf⟩ := Go.Deep.choose_lt h1
    refine ⟨some a, cap, (List.range len).map (fun i => (f i).2), fun i => (f i).1, by simp, by simpa using hl, hm, fun i hi => ?_⟩
    simp at hi
    obtain ⟨g1, g2, b, o, rfl, g3⟩ := hf i hi
    have e : (List.map (fun i => (f i).2) (List.range len)).getD i default = (f i).2 := by simp [List.getD, hi]
    rw [e]
    exact ⟨g1, g2, b, o, rfl, g3⟩
theorem openN {H : Type} {enc : TypeId × Value → H} {W : World} {sp : Nat → Bool} {held : Bool} {n : Nat} {v : Value} {y : DataW H × List MemPlace} {t e size : Nat} {α : Type} [Inhabited α] {R : Rep α} {te : Nat} {lv : Value → List Value}
    (ht : Tryz.prog.underlying t = some (.slice e)) (hz : Tryz.prog.cellsOf e = size) (hs : 0 < size)
    (hq : ∀ n cs y, DataW.trod enc Tryz.prog W 0 sp held n e cs = some y → cs.length = size → ∃ x u, lv u = cs ∧ R.V W u x) (h : DataW.trod enc Tryz.prog W 0 sp held n t [v] = some y) :
    ∃ xs : List α, (nRep R te size lv).V W v xs := by
  obtain ⟨a, cap, xs, cs, rfl, h1, h2, h3⟩ := openRow (q := fun cs x => ∃ u, lv u = cs ∧ R.V W u x) ht hz hs hq h
  refine ⟨xs, a, cap, rfl, h1, h2, fun i hi => ?_⟩
  obtain ⟨⟨u, g1, g2⟩, g3, b, o, g4, g5⟩ := h3 i hi
  exact ⟨b, o, u, g4, by rw [g1]; exact g3, fun j hj => by rw [g1]; exact g5 j hj, g2⟩
end Go.Proofs.YtdfapehonegeeaaGreat

