/-
  A log: what is told of it, on both sides.
-/
import Derived.Test.YtfeolikagceohaaLogB
namespace Go.Proofs.Ytfeolikagceohaa
open Go.RowKit
set_option linter.unusedSectionVars false
variable [DecidableEq Logg] [Inhabited Logg] [DecidableEq LoggR] [Inhabited LoggR] [DecidableEq BytesR] [Inhabited BytesR] [DecidableEq RecsR] [Inhabited RecsR] [DecidableEq Leg] [Inhabited Leg]
set_option linter.unusedSimpArgs false
attribute [local go_sem ↓] Go.wp_at_zero Go.wp_at_succ

def codeD (c : Int) : LoggR := ⟨c, ⟨[], []⟩⟩
def syncD (d : Logg) : LoggR := if logF d = 0 then ⟨0, ⟨d.synced ++ d.loose, []⟩⟩ else codeD 2
def crashD (d : Logg) (k : Int) : LoggR := if logF d = 0 then (if 0 ≤ k ∧ k ≤ d.loose.length then ⟨0, ⟨d.synced ++ d.loose.take k.toNat, []⟩⟩ else codeD 3) else codeD 2
def trimD (d : Logg) : LoggR := if logF d = 0 then ⟨0, ⟨d.synced.take (recU d.synced), []⟩⟩ else codeD 2
def readD (d : Logg) : RecsR := if logF d = 0 then recsD (d.synced ++ d.loose) else ⟨2, 0, []⟩
theorem logF_cases (d : Logg) : (logF d = 0 ∧ d.synced.length + d.loose.length ≤ 6000) ∨ logF d = 2 := by
  unfold logF
  split
  · exact .inr rfl
  · exact .inl ⟨rfl, by omega⟩
theorem syncD_crash (d : Logg) : crashD d d.loose.length = syncD d := by
  unfold crashD syncD
  split
  · rw [if_pos ⟨by omega, by omega⟩, show ((d.loose.length : Int)).toNat = d.loose.length by omega, List.take_length]
  · rfl

set_option maxHeartbeats 2000000 in
theorem specCrash_u (x : Value) (d : Logg) (k : Int) (w : World) (hx : loggR.V w x d) (hn : wtLogg d ≤ 1048576) :
    Calls Try.prog 14 #[x, .int .i64 k] w fun e w' => ∃ v F, e = .returned v ∧ loggRR.O w' w.heap.size F v (crashD d k) ∧ Below w.heap.size w w' := by
  have hX := hx
  obtain ⟨a1, a2, c1, c2, rfl⟩ := logg_form hx
  have u1 : IntKind.i64.wrap (d.loose.length : Int) = d.loose.length := by unfold wtLogg wtBytes at hn; rw [IntKind.wrap_i64]; omega
  go_enter Try.func14, Try.ntmps14
  go_wp2_with fail
  refine (specLogF_any _ d _ (loggR.below hX (by (repeat (first | exact Below.refl _ _ | assumption | refine Below.drew ?_ | refine balloc ?_ _ | refine bset ?_ (by simp; omega) _ | refine bset ?_ (by simp) _ | refine bstep ?_ (by assumption))))) hn).mono ?_
  rintro e w1 ⟨rfl, hb1⟩
  have x0 : w1.cell? ⟨w.heap.size, 0, none⟩ = some (.slice a1 d.synced.length c1) := cell_keep hb1 (by simp [go_sem])
  have x1 : w1.cell? ⟨w.heap.size, 1, none⟩ = some (.slice a2 d.loose.length c2) := cell_keep hb1 (by simp [go_sem])
  have r0 : w1.cell? ⟨w.heap.size + 1, 0, none⟩ = some (.int .i64 0) := cell_keep hb1 (by simp [go_sem])
  have r1 : w1.cell? ⟨w.heap.size + 1, 1, none⟩ = some (.slice none 0 0) := cell_keep hb1 (by simp [go_sem])
  have r2 : w1.cell? ⟨w.heap.size + 1, 2, none⟩ = some (.slice none 0 0) := cell_keep hb1 (by simp [go_sem])
  have rf : ∀ o, w1.frozen? ⟨w.heap.size + 1, o, none⟩ = false := fun o => by rw [(bcell hb1).2 _ _ (by simp)]; simp [go_sem]
  have s1 := hb1.size
  simp only [World.size_alloc] at s1
  have hB1 : Below w.heap.size w w1 := by (repeat (first | exact Below.refl _ _ | assumption | refine Below.drew ?_ | refine balloc ?_ _ | refine bset ?_ (by simp; omega) _ | refine bset ?_ (by simp) _ | refine bstep ?_ (by assumption)))
  clear hb1
  have z0 : w.heap.size < w1.heap.size := by omega
  have z1 : w.heap.size + 1 < w1.heap.size := by omega
  rcases logF_cases d with ⟨h0, hl⟩ | h0
  rotate_left
  · have HD : Hid (crashD d k = codeD 2) := by unfold Hid crashD; rw [if_neg (by omega)]
    rw [h0]
    go_wp2
    refine bodyPost_ret (v := .agg #[.int .i64 2, .slice none 0 0, .slice none 0 0]) ?_ rfl ?_
    · simp [results, Try.results14, go_sem, r0, r1, r2]
    · rw [HD.out]
      exact ⟨_, none_, rfl, loggR_code _ _ _, by (repeat (first | exact Below.refl _ _ | assumption | refine Below.drew ?_ | refine balloc ?_ _ | refine bset ?_ (by simp; omega) _ | refine bset ?_ (by simp) _ | refine bstep ?_ (by assumption)))⟩
  rw [h0]
  have hXw := loggR.below hX hB1
  clear hX hx
  go_wp2_with fail
  refine (l1In_any _ _ _ _).mono ?_
  rintro e w2 ⟨rfl, rfl⟩
  by_cases hk : 0 ≤ k ∧ k ≤ d.loose.length
  rotate_left
  · have HD : Hid (crashD d k = codeD 3) := by unfold Hid crashD; rw [if_pos h0, if_neg hk]
    have hin : inB k 0 d.loose.length = false := by unfold inB; simp; omega
    rw [hin]
    go_wp2
    refine bodyPost_ret (v := .agg #[.int .i64 3, .slice none 0 0, .slice none 0 0]) ?_ rfl ?_
    · simp [results, Try.results14, go_sem, r0, r1, r2]
    · rw [HD.out]
      exact ⟨_, none_, rfl, loggR_code _ _ _, by (repeat (first | exact Below.refl _ _ | assumption | refine Below.drew ?_ | refine balloc ?_ _ | refine bset ?_ (by simp; omega) _ | refine bset ?_ (by simp) _ | refine bstep ?_ (by assumption)))⟩
  obtain ⟨k0, k1⟩ := hk
  have hin : inB k 0 d.loose.length = true := by unfold inB; simp [k0, k1]
  rw [hin]
  obtain ⟨n, rfl⟩ : ∃ n : Nat, k = n := ⟨k.toNat, by omega⟩
  have HD : Hid (crashD d n = ⟨0, ⟨d.synced ++ d.loose.take n, []⟩⟩) := by unfold Hid crashD; rw [if_pos h0, if_pos ⟨k0, k1⟩]; rfl
  go_wp2_with fail
  refine (l4Crash_any _ d n _ hXw hn (by omega)).mono ?_
  rintro e w3 ⟨v, F, rfl, ho, hb⟩
  have hB2 : Below w.heap.size w w3 := bstep hB1 hb
  have ofm := loggR.ofO ho
  obtain ⟨a3, a4, c3, c4, rfl⟩ := logg_form ofm
  have qx0 := cell_keep hb x0
  have qx1 := cell_keep hb x1
  have qr0 := cell_keep hb r0
  have qr1 := cell_keep hb r1
  have qr2 := cell_keep hb r2
  have qrf := (boxKeep ⟨rf, z1⟩ hb).1
  have qz0 := Nat.lt_of_lt_of_le z0 hb.size
  have qz1 := Nat.lt_of_lt_of_le z1 hb.size
  clear x0 x1 r0 r1 r2 rf z0 z1
  have ho2 := loggR.base (base' := w.heap.size + 2) ho (by omega)
  clear ho hb hB1 hXw
  go_wp2
  have HO2 := loggR_of ho2
  refine bodyPost_ret (v := .agg #[.int .i64 0, .slice a3 (d.synced ++ d.loose.take n).length c3, .slice a4 0 c4]) ?_ rfl ?_
  · simp [results, Try.results14, go_sem, qr0, qr1, qr2]
    try omega
  · first | refine ⟨_, F, rfl, ?_, by (repeat (first | exact Below.refl _ _ | assumption | refine Below.drew ?_ | refine balloc ?_ _ | refine bset ?_ (by simp; omega) _ | refine bset ?_ (by simp) _ | refine bstep ?_ (by assumption)))⟩ | refine ⟨_, rfl, ⟨F, ?_⟩, by (repeat (first | exact Below.refl _ _ | assumption | refine Below.drew ?_ | refine balloc ?_ _ | refine bset ?_ (by simp; omega) _ | refine bset ?_ (by simp) _ | refine bstep ?_ (by assumption)))⟩
    rw [HD.out]
    exact loggRR.base (base := w.heap.size + 2) (by (repeat (first | assumption | refine Rep.set _ ?_ _ (by simp; omega) | refine Rep.set _ ?_ _ (by simp) | refine Rep.alloc _ ?_ _ | refine Rep.keep _ ?_ (by assumption)))) (by omega)

set_option maxHeartbeats 2000000 in
theorem implCrash_u (x : Value) (d : Logg) (k : Int) (w : World) (hx : loggR.V w x d) (hn : wtLogg d ≤ 1048576) :
    Calls Try.prog 13 #[x, .int .i64 k] w fun e w' => ∃ v F, e = .returned v ∧ loggRR.O w' w.heap.size F v (crashD d k) ∧ Below w.heap.size w w' := by
  have hX := hx
  obtain ⟨a1, a2, c1, c2, rfl⟩ := logg_form hx
  have u1 : IntKind.i64.wrap (d.loose.length : Int) = d.loose.length := by unfold wtLogg wtBytes at hn; rw [IntKind.wrap_i64]; omega
  go_enter Try.func13, Try.ntmps13
  go_wp2_with fail
  refine (implLogF_any _ d _ (loggR.below hX (by (repeat (first | exact Below.refl _ _ | assumption | refine Below.drew ?_ | refine balloc ?_ _ | refine bset ?_ (by simp; omega) _ | refine bset ?_ (by simp) _ | refine bstep ?_ (by assumption))))) hn).mono ?_
  rintro e w1 ⟨rfl, hb1⟩
  have x0 : w1.cell? ⟨w.heap.size, 0, none⟩ = some (.slice a1 d.synced.length c1) := cell_keep hb1 (by simp [go_sem])
  have x1 : w1.cell? ⟨w.heap.size, 1, none⟩ = some (.slice a2 d.loose.length c2) := cell_keep hb1 (by simp [go_sem])
  have r0 : w1.cell? ⟨w.heap.size + 1, 0, none⟩ = some (.int .i64 0) := cell_keep hb1 (by simp [go_sem])
  have r1 : w1.cell? ⟨w.heap.size + 1, 1, none⟩ = some (.slice none 0 0) := cell_keep hb1 (by simp [go_sem])
  have r2 : w1.cell? ⟨w.heap.size + 1, 2, none⟩ = some (.slice none 0 0) := cell_keep hb1 (by simp [go_sem])
  have rf : ∀ o, w1.frozen? ⟨w.heap.size + 1, o, none⟩ = false := fun o => by rw [(bcell hb1).2 _ _ (by simp)]; simp [go_sem]
  have s1 := hb1.size
  simp only [World.size_alloc] at s1
  have hB1 : Below w.heap.size w w1 := by (repeat (first | exact Below.refl _ _ | assumption | refine Below.drew ?_ | refine balloc ?_ _ | refine bset ?_ (by simp; omega) _ | refine bset ?_ (by simp) _ | refine bstep ?_ (by assumption)))
  clear hb1
  have z0 : w.heap.size < w1.heap.size := by omega
  have z1 : w.heap.size + 1 < w1.heap.size := by omega
  rcases logF_cases d with ⟨h0, hl⟩ | h0
  rotate_left
  · have HD : Hid (crashD d k = codeD 2) := by unfold Hid crashD; rw [if_neg (by omega)]
    rw [h0]
    go_wp2
    refine bodyPost_ret (v := .agg #[.int .i64 2, .slice none 0 0, .slice none 0 0]) ?_ rfl ?_
    · simp [results, Try.results13, go_sem, r0, r1, r2]
    · rw [HD.out]
      exact ⟨_, none_, rfl, loggR_code _ _ _, by (repeat (first | exact Below.refl _ _ | assumption | refine Below.drew ?_ | refine balloc ?_ _ | refine bset ?_ (by simp; omega) _ | refine bset ?_ (by simp) _ | refine bstep ?_ (by assumption)))⟩
  rw [h0]
  have hXw := loggR.below hX hB1
  clear hX hx
  go_wp2_with fail
  refine (within_any _ _ _ _).mono ?_
  rintro e w2 ⟨rfl, rfl⟩
  by_cases hk : 0 ≤ k ∧ k ≤ d.loose.length
  rotate_left
  · have HD : Hid (crashD d k = codeD 3) := by unfold Hid crashD; rw [if_pos h0, if_neg hk]
    have hin : inB k 0 d.loose.length = false := by unfold inB; simp; omega
    rw [hin]
    go_wp2
    refine bodyPost_ret (v := .agg #[.int .i64 3, .slice none 0 0, .slice none 0 0]) ?_ rfl ?_
    · simp [results, Try.results13, go_sem, r0, r1, r2]
    · rw [HD.out]
      exact ⟨_, none_, rfl, loggR_code _ _ _, by (repeat (first | exact Below.refl _ _ | assumption | refine Below.drew ?_ | refine balloc ?_ _ | refine bset ?_ (by simp; omega) _ | refine bset ?_ (by simp) _ | refine bstep ?_ (by assumption)))⟩
  obtain ⟨k0, k1⟩ := hk
  have hin : inB k 0 d.loose.length = true := by unfold inB; simp [k0, k1]
  rw [hin]
  obtain ⟨n, rfl⟩ : ∃ n : Nat, k = n := ⟨k.toNat, by omega⟩
  have HD : Hid (crashD d n = ⟨0, ⟨(d.synced ++ d.loose).take (d.synced.length + n), []⟩⟩) := by
    unfold Hid crashD
    rw [if_pos h0, if_pos ⟨k0, k1⟩, List.take_length_add_append]
    rfl
  go_wp2_with fail
  refine (readerOf_any _ d _ hXw hn).mono ?_
  rintro e w3 ⟨v, F, rfl, ho, hb⟩
  have hB2 : Below w.heap.size w w3 := bstep hB1 hb
  have V3 := bytesR.ofO ho
  obtain ⟨a3, c3, rfl⟩ := bytes_form V3
  have hbl : (d.synced ++ d.loose).length ≤ 6000 := by rw [List.length_append]; exact hl
  have hbn : d.synced.length + n ≤ (d.synced ++ d.loose).length := by rw [List.length_append]; omega
  have u2 : IntKind.i64.wrap ((d.synced.length : Int) + n) = ((d.synced.length + n : Nat) : Int) := by rw [IntKind.wrap_i64]; omega
  have HLN : Hid ((d.synced ++ d.loose).length = d.synced.length + d.loose.length) := List.length_append
  generalize d.synced ++ d.loose = bs at *
  have qx0 := cell_keep hb x0
  have qx1 := cell_keep hb x1
  have qr0 := cell_keep hb r0
  have qr1 := cell_keep hb r1
  have qr2 := cell_keep hb r2
  have qrf := (boxKeep ⟨rf, z1⟩ hb).1
  have qz0 := Nat.lt_of_lt_of_le z0 hb.size
  have qz1 := Nat.lt_of_lt_of_le z1 hb.size
  clear x0 x1 r0 r1 r2 rf z0 z1
  clear ho hb hB1 hXw
  go_wp2_with fail
  refine (syncedUpTo_any _ bs (d.synced.length + n) _ (bytesR.below V3 (by (repeat (first | exact Below.refl _ _ | assumption | refine Below.drew ?_ | refine balloc ?_ _ | refine bset ?_ (by simp; omega) _ | refine bset ?_ (by simp) _ | refine bstep ?_ (by assumption))))) hbn (by omega)).mono ?_
  rintro e w4 ⟨v, F4, rfl, ho, hb⟩
  have hB3 : Below w.heap.size w w4 := bstep (by (repeat (first | exact Below.refl _ _ | assumption | refine Below.drew ?_ | refine balloc ?_ _ | refine bset ?_ (by simp; omega) _ | refine bset ?_ (by simp) _ | refine bstep ?_ (by assumption)))) hb
  have ofm := loggR.ofO ho
  obtain ⟨a4, a5, c4, c5, rfl⟩ := logg_form ofm
  have hc := hb
  replace hb : Below w3.heap.size w3 w4 := bstep (by (repeat (first | exact Below.refl _ _ | assumption | refine Below.drew ?_ | refine balloc ?_ _ | refine bset ?_ (by simp; omega) _ | refine bset ?_ (by simp) _ | refine bstep ?_ (by assumption)))) hc
  have hz3 : w.heap.size + 2 ≤ w3.heap.size := qz1
  have px0 := cell_keep hb qx0
  have px1 := cell_keep hb qx1
  have pr0 := cell_keep hb qr0
  have pr1 := cell_keep hb qr1
  have pr2 := cell_keep hb qr2
  have prf := (boxKeep ⟨qrf, qz1⟩ hb).1
  have pz0 := Nat.lt_of_lt_of_le qz0 hb.size
  have pz1 := Nat.lt_of_lt_of_le qz1 hb.size
  clear qx0 qx1 qr0 qr1 qr2 qrf qz0 qz1
  have ho2 := loggR.base (base' := w.heap.size + 2) ho (by simp; omega)
  clear ho hb hB2 hc V3
  go_wp2
  have HO2 := loggR_of ho2
  refine bodyPost_ret (v := .agg #[.int .i64 0, .slice a4 (List.take (d.synced.length + n) bs).length c4, .slice a5 0 c5]) ?_ rfl ?_
  · simp [results, Try.results13, go_sem, pr0, pr1, pr2]
    try omega
  · first | refine ⟨_, F4, rfl, ?_, by (repeat (first | exact Below.refl _ _ | assumption | refine Below.drew ?_ | refine balloc ?_ _ | refine bset ?_ (by simp; omega) _ | refine bset ?_ (by simp) _ | refine bstep ?_ (by assumption)))⟩ | refine ⟨_, rfl, ⟨F4, ?_⟩, by (repeat (first | exact Below.refl _ _ | assumption | refine Below.drew ?_ | refine balloc ?_ _ | refine bset ?_ (by simp; omega) _ | refine bset ?_ (by simp) _ | refine bstep ?_ (by assumption)))⟩
    rw [HD.out]
    exact loggRR.base (base := w.heap.size + 2) (by (repeat (first | assumption | refine Rep.set _ ?_ _ (by simp; omega) | refine Rep.set _ ?_ _ (by simp) | refine Rep.alloc _ ?_ _ | refine Rep.keep _ ?_ (by assumption)))) (by omega)

set_option maxHeartbeats 1000000 in
theorem implSync_u (x : Value) (d : Logg) (w : World) (hx : loggR.V w x d) (hn : wtLogg d ≤ 1048576) :
    Calls Try.prog 21 #[x] w fun e w' => ∃ v F, e = .returned v ∧ loggRR.O w' w.heap.size F v (syncD d) ∧ Below w.heap.size w w' := by
  have hX := hx
  obtain ⟨a1, a2, c1, c2, rfl⟩ := logg_form hx
  have u1 : IntKind.i64.wrap (d.loose.length : Int) = d.loose.length := by unfold wtLogg wtBytes at hn; rw [IntKind.wrap_i64]; omega
  go_enter Try.func21, Try.ntmps21
  go_wp2_with fail
  refine (implCrash_u _ d d.loose.length _ (loggR.below hX (by (repeat (first | exact Below.refl _ _ | assumption | refine Below.drew ?_ | refine balloc ?_ _ | refine bset ?_ (by simp; omega) _ | refine bset ?_ (by simp) _ | refine bstep ?_ (by assumption))))) hn).mono ?_
  rintro e w1 ⟨v, F, rfl, ho, hb1⟩
  rw [syncD_crash] at ho
  have ofm := loggRR.ofO ho
  obtain ⟨a3, a4, c3, c4, rfl⟩ := loggR_form ofm
  have r0 : w1.cell? ⟨w.heap.size + 1, 0, none⟩ = some (.int .i64 0) := cell_keep hb1 (by simp [go_sem])
  have r1 : w1.cell? ⟨w.heap.size + 1, 1, none⟩ = some (.slice none 0 0) := cell_keep hb1 (by simp [go_sem])
  have r2 : w1.cell? ⟨w.heap.size + 1, 2, none⟩ = some (.slice none 0 0) := cell_keep hb1 (by simp [go_sem])
  have rf : ∀ o, w1.frozen? ⟨w.heap.size + 1, o, none⟩ = false := fun o => by rw [(bcell hb1).2 _ _ (by simp)]; simp [go_sem]
  have hB1 : Below w.heap.size w w1 := by (repeat (first | exact Below.refl _ _ | assumption | refine Below.drew ?_ | refine balloc ?_ _ | refine bset ?_ (by simp; omega) _ | refine bset ?_ (by simp) _ | refine bstep ?_ (by assumption)))
  have ho2 := loggRR.base (base' := w.heap.size + 2) ho (by simp)
  obtain ⟨D, hD⟩ : ∃ D, syncD d = D := ⟨_, rfl⟩
  have ED : Hid (syncD d = D) := hD
  rw [hD] at ho2 ofm ⊢
  clear hD
  clear ho hb1 hX hx
  go_wp2
  refine bodyPost_ret (v := .agg #[.int .i64 D.code, .slice a3 D.log.synced.length c3, .slice a4 D.log.loose.length c4]) ?_ rfl ⟨_, F, rfl, ?_, by (repeat (first | exact Below.refl _ _ | assumption | refine Below.drew ?_ | refine balloc ?_ _ | refine bset ?_ (by simp; omega) _ | refine bset ?_ (by simp) _ | refine bstep ?_ (by assumption)))⟩
  · simp [results, Try.results21, go_sem, r0, r1, r2]
  · rw [ED.out]
    exact loggRR.base (base := w.heap.size + 2) (loggRR.set (loggRR.set (loggRR.set ho2 _ (by simp)) _ (by simp)) _ (by simp)) (by omega)

set_option maxHeartbeats 2000000 in
theorem specRead_u (x : Value) (d : Logg) (w : World) (hx : loggR.V w x d) (hn : wtLogg d ≤ 1048576) :
    Calls Try.prog 17 #[x] w fun e w' => ∃ v F, e = .returned v ∧ recsRR.O w' w.heap.size F v (readD d) ∧ Below w.heap.size w w' := by
  have hX := hx
  obtain ⟨a1, a2, c1, c2, rfl⟩ := logg_form hx
  go_enter Try.func17, Try.ntmps17
  go_wp2_with fail
  refine (specLogF_any _ d _ (loggR.below hX (by (repeat (first | exact Below.refl _ _ | assumption | refine Below.drew ?_ | refine balloc ?_ _ | refine bset ?_ (by simp; omega) _ | refine bset ?_ (by simp) _ | refine bstep ?_ (by assumption))))) hn).mono ?_
  rintro e w1 ⟨rfl, hb1⟩
  have x0 : w1.cell? ⟨w.heap.size, 0, none⟩ = some (.slice a1 d.synced.length c1) := cell_keep hb1 (by simp [go_sem])
  have x1 : w1.cell? ⟨w.heap.size, 1, none⟩ = some (.slice a2 d.loose.length c2) := cell_keep hb1 (by simp [go_sem])
  have r0 : w1.cell? ⟨w.heap.size + 1, 0, none⟩ = some (.int .i64 0) := cell_keep hb1 (by simp [go_sem])
  have r1 : w1.cell? ⟨w.heap.size + 1, 1, none⟩ = some (.int .i64 0) := cell_keep hb1 (by simp [go_sem])
  have r2 : w1.cell? ⟨w.heap.size + 1, 2, none⟩ = some (.slice none 0 0) := cell_keep hb1 (by simp [go_sem])
  have rf : ∀ o, w1.frozen? ⟨w.heap.size + 1, o, none⟩ = false := fun o => by rw [(bcell hb1).2 _ _ (by simp)]; simp [go_sem]
  have s1 := hb1.size
  simp only [World.size_alloc] at s1
  have hB1 : Below w.heap.size w w1 := by (repeat (first | exact Below.refl _ _ | assumption | refine Below.drew ?_ | refine balloc ?_ _ | refine bset ?_ (by simp; omega) _ | refine bset ?_ (by simp) _ | refine bstep ?_ (by assumption)))
  clear hb1
  have z0 : w.heap.size < w1.heap.size := by omega
  have z1 : w.heap.size + 1 < w1.heap.size := by omega
  rcases logF_cases d with ⟨h0, hl⟩ | h0
  rotate_left
  · have HD : Hid (readD d = ⟨2, 0, []⟩) := by unfold Hid readD; rw [if_neg (by omega)]
    rw [h0]
    go_wp2
    refine bodyPost_ret (v := .agg #[.int .i64 2, .int .i64 0, .slice none 0 0]) ?_ rfl ?_
    · simp [results, Try.results17, go_sem, r0, r1, r2]
    · rw [HD.out]
      exact ⟨_, none_, rfl, recsR_nil _ _ _ _, by (repeat (first | exact Below.refl _ _ | assumption | refine Below.drew ?_ | refine balloc ?_ _ | refine bset ?_ (by simp; omega) _ | refine bset ?_ (by simp) _ | refine bstep ?_ (by assumption)))⟩
  rw [h0]
  have hXw := loggR.below hX hB1
  clear hX hx
  have HD : Hid (readD d = recsD (d.synced ++ d.loose)) := by unfold Hid readD; rw [if_pos h0]
  go_wp2_with fail
  refine (l4Sync_any _ d _ hXw hn).mono ?_
  rintro e w2 ⟨v, F, rfl, ho, hb⟩
  have hB2 : Below w.heap.size w w2 := bstep hB1 hb
  have ofm := loggR.ofO ho
  obtain ⟨u3, u4, rfl, V3, V4⟩ := ofm
  generalize d.synced ++ d.loose = bs at *
  obtain ⟨a3, c3, rfl⟩ := bytes_form V3
  obtain ⟨a4, c4, rfl⟩ := bytes_form V4
  have hfd : ∀ w : World, (Instr.field 34 (.agg #[.slice a3 bs.length c3, .slice a4 0 c4]) 0).run Try.prog w = .ok (.slice a3 bs.length c3) w := fun _ => by kernel_rfl
  have qx0 := cell_keep hb x0
  have qx1 := cell_keep hb x1
  have qr0 := cell_keep hb r0
  have qr1 := cell_keep hb r1
  have qr2 := cell_keep hb r2
  have qrf := (boxKeep ⟨rf, z1⟩ hb).1
  have qz0 := Nat.lt_of_lt_of_le z0 hb.size
  have qz1 := Nat.lt_of_lt_of_le z1 hb.size
  clear x0 x1 r0 r1 r2 rf z0 z1
  clear ho hb hB1 hXw
  go_wp2_with fail
  refine (specUnframe_u _ bs _ V3).mono ?_
  rintro e w4 ⟨v, F4, rfl, ho, hb⟩
  have hB3 : Below w.heap.size w w4 := bstep hB2 hb
  have fv := recsRR.ofO ho
  obtain ⟨a5, c5, rfl⟩ := recsR_form fv
  have hz3 : w.heap.size + 2 ≤ w2.heap.size := qz1
  have px0 := cell_keep hb qx0
  have px1 := cell_keep hb qx1
  have pr0 := cell_keep hb qr0
  have pr1 := cell_keep hb qr1
  have pr2 := cell_keep hb qr2
  have prf := (boxKeep ⟨qrf, qz1⟩ hb).1
  have pz0 := Nat.lt_of_lt_of_le qz0 hb.size
  have pz1 := Nat.lt_of_lt_of_le qz1 hb.size
  clear qx0 qx1 qr0 qr1 qr2 qrf qz0 qz1
  have ho2 := recsRR.base (base' := w.heap.size + 2) ho hz3
  rw [← HD.out] at ho2 ⊢
  obtain ⟨D, hD⟩ : ∃ D, readD d = D := ⟨_, rfl⟩
  have ED : Hid (readD d = D) := hD
  rw [hD] at ho2 ⊢
  clear hD
  clear ho hb hB2 fv HD V3 V4
  go_wp2
  refine bodyPost_ret (v := .agg #[.int .i64 D.code, .int .i64 D.used, .slice a5 D.records.length c5]) ?_ rfl ⟨_, F4, rfl, ?_, by (repeat (first | exact Below.refl _ _ | assumption | refine Below.drew ?_ | refine balloc ?_ _ | refine bset ?_ (by simp; omega) _ | refine bset ?_ (by simp) _ | refine bstep ?_ (by assumption)))⟩
  · simp [results, Try.results17, go_sem, pr0, pr1, pr2]
  · rw [ED.out]
    exact recsRR.base (base := w.heap.size + 2) (recsRR.set (recsRR.set (recsRR.set ho2 _ (by simp)) _ (by simp)) _ (by simp)) (by omega)

set_option maxHeartbeats 2000000 in
theorem implRead_u (x : Value) (d : Logg) (w : World) (hx : loggR.V w x d) (hn : wtLogg d ≤ 1048576) :
    Calls Try.prog 15 #[x] w fun e w' => ∃ v F, e = .returned v ∧ recsRR.O w' w.heap.size F v (readD d) ∧ Below w.heap.size w w' := by
  have hX := hx
  obtain ⟨a1, a2, c1, c2, rfl⟩ := logg_form hx
  go_enter Try.func15, Try.ntmps15
  go_wp2_with fail
  refine (implLogF_any _ d _ (loggR.below hX (by (repeat (first | exact Below.refl _ _ | assumption | refine Below.drew ?_ | refine balloc ?_ _ | refine bset ?_ (by simp; omega) _ | refine bset ?_ (by simp) _ | refine bstep ?_ (by assumption))))) hn).mono ?_
  rintro e w1 ⟨rfl, hb1⟩
  have x0 : w1.cell? ⟨w.heap.size, 0, none⟩ = some (.slice a1 d.synced.length c1) := cell_keep hb1 (by simp [go_sem])
  have x1 : w1.cell? ⟨w.heap.size, 1, none⟩ = some (.slice a2 d.loose.length c2) := cell_keep hb1 (by simp [go_sem])
  have r0 : w1.cell? ⟨w.heap.size + 1, 0, none⟩ = some (.int .i64 0) := cell_keep hb1 (by simp [go_sem])
  have r1 : w1.cell? ⟨w.heap.size + 1, 1, none⟩ = some (.int .i64 0) := cell_keep hb1 (by simp [go_sem])
  have r2 : w1.cell? ⟨w.heap.size + 1, 2, none⟩ = some (.slice none 0 0) := cell_keep hb1 (by simp [go_sem])
  have rf : ∀ o, w1.frozen? ⟨w.heap.size + 1, o, none⟩ = false := fun o => by rw [(bcell hb1).2 _ _ (by simp)]; simp [go_sem]
  have s1 := hb1.size
  simp only [World.size_alloc] at s1
  have hB1 : Below w.heap.size w w1 := by (repeat (first | exact Below.refl _ _ | assumption | refine Below.drew ?_ | refine balloc ?_ _ | refine bset ?_ (by simp; omega) _ | refine bset ?_ (by simp) _ | refine bstep ?_ (by assumption)))
  clear hb1
  have z0 : w.heap.size < w1.heap.size := by omega
  have z1 : w.heap.size + 1 < w1.heap.size := by omega
  rcases logF_cases d with ⟨h0, hl⟩ | h0
  rotate_left
  · have HD : Hid (readD d = ⟨2, 0, []⟩) := by unfold Hid readD; rw [if_neg (by omega)]
    rw [h0]
    go_wp2
    refine bodyPost_ret (v := .agg #[.int .i64 2, .int .i64 0, .slice none 0 0]) ?_ rfl ?_
    · simp [results, Try.results15, go_sem, r0, r1, r2]
    · rw [HD.out]
      exact ⟨_, none_, rfl, recsR_nil _ _ _ _, by (repeat (first | exact Below.refl _ _ | assumption | refine Below.drew ?_ | refine balloc ?_ _ | refine bset ?_ (by simp; omega) _ | refine bset ?_ (by simp) _ | refine bstep ?_ (by assumption)))⟩
  rw [h0]
  have hXw := loggR.below hX hB1
  clear hX hx
  have HD : Hid (readD d = recsD (d.synced ++ d.loose)) := by unfold Hid readD; rw [if_pos h0]
  go_wp2_with fail
  refine (readerOf_any _ d _ hXw hn).mono ?_
  rintro e w2 ⟨v, F, rfl, ho, hb⟩
  have hB2 : Below w.heap.size w w2 := bstep hB1 hb
  have V3 := bytesR.ofO ho
  generalize d.synced ++ d.loose = bs at *
  obtain ⟨a3, c3, rfl⟩ := bytes_form V3
  have hfd : ∀ w : World, (Instr.field 60 (.agg #[.slice a3 bs.length c3, .int .i64 (d.synced.length : Int)]) 0).run Try.prog w = .ok (.slice a3 bs.length c3) w := fun _ => by kernel_rfl
  have qx0 := cell_keep hb x0
  have qx1 := cell_keep hb x1
  have qr0 := cell_keep hb r0
  have qr1 := cell_keep hb r1
  have qr2 := cell_keep hb r2
  have qrf := (boxKeep ⟨rf, z1⟩ hb).1
  have qz0 := Nat.lt_of_lt_of_le z0 hb.size
  have qz1 := Nat.lt_of_lt_of_le z1 hb.size
  clear x0 x1 r0 r1 r2 rf z0 z1
  clear ho hb hB1 hXw
  go_wp2_with fail
  refine (records_any _ bs _ V3).mono ?_
  rintro e w4 ⟨v, F4, rfl, ho, hb⟩
  have hB3 : Below w.heap.size w w4 := bstep hB2 hb
  have fv := recsRR.ofO ho
  obtain ⟨a5, c5, rfl⟩ := recsR_form fv
  have hz3 : w.heap.size + 2 ≤ w2.heap.size := qz1
  have px0 := cell_keep hb qx0
  have px1 := cell_keep hb qx1
  have pr0 := cell_keep hb qr0
  have pr1 := cell_keep hb qr1
  have pr2 := cell_keep hb qr2
  have prf := (boxKeep ⟨qrf, qz1⟩ hb).1
  have pz0 := Nat.lt_of_lt_of_le qz0 hb.size
  have pz1 := Nat.lt_of_lt_of_le qz1 hb.size
  clear qx0 qx1 qr0 qr1 qr2 qrf qz0 qz1
  have ho2 := recsRR.base (base' := w.heap.size + 2) ho hz3
  rw [← HD.out] at ho2 ⊢
  obtain ⟨D, hD⟩ : ∃ D, readD d = D := ⟨_, rfl⟩
  have ED : Hid (readD d = D) := hD
  rw [hD] at ho2 ⊢
  clear hD
  clear ho hb hB2 fv HD V3
  go_wp2
  refine bodyPost_ret (v := .agg #[.int .i64 D.code, .int .i64 D.used, .slice a5 D.records.length c5]) ?_ rfl ⟨_, F4, rfl, ?_, by (repeat (first | exact Below.refl _ _ | assumption | refine Below.drew ?_ | refine balloc ?_ _ | refine bset ?_ (by simp; omega) _ | refine bset ?_ (by simp) _ | refine bstep ?_ (by assumption)))⟩
  · simp [results, Try.results15, go_sem, pr0, pr1, pr2]
  · rw [ED.out]
    exact recsRR.base (base := w.heap.size + 2) (recsRR.set (recsRR.set (recsRR.set ho2 _ (by simp)) _ (by simp)) _ (by simp)) (by omega)

set_option maxHeartbeats 2000000 in
theorem implTrim_u (x : Value) (d : Logg) (w : World) (hx : loggR.V w x d) (hn : wtLogg d ≤ 1048576) :
    Calls Try.prog 16 #[x] w fun e w' => ∃ v F, e = .returned v ∧ loggRR.O w' w.heap.size F v (trimD d) ∧ Below w.heap.size w w' := by
  have hX := hx
  obtain ⟨a1, a2, c1, c2, rfl⟩ := logg_form hx
  go_enter Try.func16, Try.ntmps16
  go_wp2_with fail
  refine (implLogF_any _ d _ (loggR.below hX (by (repeat (first | exact Below.refl _ _ | assumption | refine Below.drew ?_ | refine balloc ?_ _ | refine bset ?_ (by simp; omega) _ | refine bset ?_ (by simp) _ | refine bstep ?_ (by assumption))))) hn).mono ?_
  rintro e w1 ⟨rfl, hb1⟩
  have x0 : w1.cell? ⟨w.heap.size, 0, none⟩ = some (.slice a1 d.synced.length c1) := cell_keep hb1 (by simp [go_sem])
  have x1 : w1.cell? ⟨w.heap.size, 1, none⟩ = some (.slice a2 d.loose.length c2) := cell_keep hb1 (by simp [go_sem])
  have r0 : w1.cell? ⟨w.heap.size + 1, 0, none⟩ = some (.int .i64 0) := cell_keep hb1 (by simp [go_sem])
  have r1 : w1.cell? ⟨w.heap.size + 1, 1, none⟩ = some (.slice none 0 0) := cell_keep hb1 (by simp [go_sem])
  have r2 : w1.cell? ⟨w.heap.size + 1, 2, none⟩ = some (.slice none 0 0) := cell_keep hb1 (by simp [go_sem])
  have rf : ∀ o, w1.frozen? ⟨w.heap.size + 1, o, none⟩ = false := fun o => by rw [(bcell hb1).2 _ _ (by simp)]; simp [go_sem]
  have s1 := hb1.size
  simp only [World.size_alloc] at s1
  have hB1 : Below w.heap.size w w1 := by (repeat (first | exact Below.refl _ _ | assumption | refine Below.drew ?_ | refine balloc ?_ _ | refine bset ?_ (by simp; omega) _ | refine bset ?_ (by simp) _ | refine bstep ?_ (by assumption)))
  clear hb1
  have z0 : w.heap.size < w1.heap.size := by omega
  have z1 : w.heap.size + 1 < w1.heap.size := by omega
  rcases logF_cases d with ⟨h0, hl⟩ | h0
  rotate_left
  · have HD : Hid (trimD d = codeD 2) := by unfold Hid trimD; rw [if_neg (by omega)]
    rw [h0]
    go_wp2
    refine bodyPost_ret (v := .agg #[.int .i64 2, .slice none 0 0, .slice none 0 0]) ?_ rfl ?_
    · simp [results, Try.results16, go_sem, r0, r1, r2]
    · rw [HD.out]
      exact ⟨_, none_, rfl, loggR_code _ _ _, by (repeat (first | exact Below.refl _ _ | assumption | refine Below.drew ?_ | refine balloc ?_ _ | refine bset ?_ (by simp; omega) _ | refine bset ?_ (by simp) _ | refine bstep ?_ (by assumption)))⟩
  rw [h0]
  have hXw := loggR.below hX hB1
  clear hX hx
  have HD : Hid (trimD d = ⟨0, ⟨d.synced.take (recU d.synced), []⟩⟩) := by unfold Hid trimD; rw [if_pos h0]
  have hu := recU_le d.synced
  have hrd : recsD d.synced = ⟨0, recU d.synced, recL d.synced⟩ := by unfold recsD; rw [if_pos (by omega)]
  obtain ⟨u1, u2, e, V1, V2⟩ := hXw
  simp only [Value.agg.injEq, Array.mk.injEq, List.cons.injEq, and_true] at e
  obtain ⟨rfl, rfl⟩ := e
  have hXn : ∀ W : World, Below w1.heap.size w1 W → loggR.V W (.agg #[.slice a1 d.synced.length c1, .slice none 0 0]) ⟨d.synced, []⟩ := fun W hW =>
    ⟨_, _, rfl, bytesR.below V1 hW, bytesR.ofO (bytes_nil W 0)⟩
  have hbs : d.synced.length ≤ 6000 := by omega
  clear V1 V2
  go_wp2_with fail
  refine (readerOf_any _ ⟨d.synced, []⟩ _ (hXn _ (by (repeat (first | exact Below.refl _ _ | assumption | refine Below.drew ?_ | refine balloc ?_ _ | refine bset ?_ (by simp; omega) _ | refine bset ?_ (by simp) _ | refine bstep ?_ (by assumption))))) (by unfold wtLogg wtBytes; simp; omega)).mono ?_
  rintro e w3 ⟨v, F, rfl, ho, hb⟩
  simp only [List.append_nil] at ho
  have hB2 : Below w.heap.size w w3 := bstep hB1 hb
  have V3 := bytesR.ofO ho
  obtain ⟨a3, c3, rfl⟩ := bytes_form V3
  have qr0 := cell_keep hb r0
  have qr1 := cell_keep hb r1
  have qr2 := cell_keep hb r2
  have qrf := (boxKeep ⟨rf, z1⟩ hb).1
  have qz0 := Nat.lt_of_lt_of_le z0 hb.size
  have qz1 := Nat.lt_of_lt_of_le z1 hb.size
  clear r0 r1 r2 rf z0 z1
  clear ho hb hB1 hXn x0 x1
  go_wp2
  refine wp_region_noPanic ?_
  refine region_upto (fun w' => Below w.heap.size w w' ∧ w'.cell? ⟨w3.heap.size, 0, none⟩ = some (.slice a3 d.synced.length c3)) 8 (by kernel_rfl) ⟨by (repeat (first | exact Below.refl _ _ | assumption | refine Below.drew ?_ | refine balloc ?_ _ | refine bset ?_ (by simp; omega) _ | refine bset ?_ (by simp) _ | refine bstep ?_ (by assumption))), by simp [go_sem]⟩ (fun hS => ?_)
  refine upto_take (i := 0) (v := ?_) rfl (by kernel_rfl) (by kernel_rfl) (by kernel_rfl) (by kernel_rfl) (fun _ _ _ h => h) (by rfl) hS ?_ ?_
  rotate_left
  · intro wS hSw
    try dsimp only at hSw
    first | (go_simp; done) | (go_simp; with_reducible rfl)
  try simp only [Act.put, List.getElem_toArray, List.getElem_cons_zero, List.getElem_cons_succ, List.setIfInBounds_toArray, List.set_cons_zero, List.set_cons_succ]
  refine upto_take (i := 1) (v := ?_) rfl (by kernel_rfl) (by kernel_rfl) (by kernel_rfl) (by kernel_rfl) (fun _ _ _ h => h) (by rfl) hS ?_ ?_
  rotate_left
  · intro wS hSw
    try dsimp only at hSw
    first | (go_simp; done) | (go_simp; with_reducible rfl)
  try simp only [Act.put, List.getElem_toArray, List.getElem_cons_zero, List.getElem_cons_succ, List.setIfInBounds_toArray, List.set_cons_zero, List.set_cons_succ]
  refine upto_take (i := 2) (v := ?_) rfl (by kernel_rfl) (by kernel_rfl) (by kernel_rfl) (by kernel_rfl) (fun _ _ _ h => h) (by rfl) hS ?_ ?_
  rotate_left
  · intro wS hSw
    try dsimp only at hSw
    first | (go_simp; done) | (go_simp; with_reducible rfl)
  try simp only [Act.put, List.getElem_toArray, List.getElem_cons_zero, List.getElem_cons_succ, List.setIfInBounds_toArray, List.set_cons_zero, List.set_cons_succ]
  refine upto_take (i := 3) (v := ?_) rfl (by kernel_rfl) (by kernel_rfl) (by kernel_rfl) (by kernel_rfl) (fun _ _ _ h => h) (by rfl) hS ?_ ?_
  rotate_left
  · intro wS hSw
    try dsimp only at hSw
    first | (go_simp; done) | (go_simp; with_reducible rfl)
  try simp only [Act.put, List.getElem_toArray, List.getElem_cons_zero, List.getElem_cons_succ, List.setIfInBounds_toArray, List.set_cons_zero, List.set_cons_succ]
  refine upto_step (i := 4) (by kernel_rfl) rfl ?_
  intro K hK
  go_simp
  refine (records_any _ d.synced _ (bytesR.below V3 (by (repeat (first | exact Below.refl _ _ | assumption | refine Below.drew ?_ | refine balloc ?_ _ | refine bset ?_ (by simp; omega) _ | refine bset ?_ (by simp) _ | refine bstep ?_ (by assumption)))))).mono ?_
  rintro e w4 ⟨v, F4, rfl, ho4, hb4⟩
  rw [hrd] at ho4
  have fv := recsRR.ofO ho4
  obtain ⟨a5, c5, rfl⟩ := recsR_form fv
  have hfd : ∀ w : World, (Instr.field 31 (.agg #[.int .i64 0, .int .i64 (recU d.synced : Int), .slice a5 (recL d.synced).length c5]) 1).run Try.prog w = .ok (.int .i64 (recU d.synced : Int)) w := fun _ => by kernel_rfl
  have hS4 : (fun w' => Below w.heap.size w w' ∧ w'.cell? ⟨w3.heap.size, 0, none⟩ = some (.slice a3 d.synced.length c3)) w4 := ⟨bstep (by (repeat (first | exact Below.refl _ _ | assumption | refine Below.drew ?_ | refine balloc ?_ _ | refine bset ?_ (by simp; omega) _ | refine bset ?_ (by simp) _ | refine bstep ?_ (by assumption)))) hb4, cell_keep hb4 (by simp [go_sem])⟩
  have hb34 : Below w3.heap.size w3 w4 := bstep (by (repeat (first | exact Below.refl _ _ | assumption | refine Below.drew ?_ | refine balloc ?_ _ | refine bset ?_ (by simp; omega) _ | refine bset ?_ (by simp) _ | refine bstep ?_ (by assumption)))) hb4
  refine hK _ _ (fun _ => hS4) ?_
  clear hK K ho4 fv hb4
  try simp only [Act.put, List.getElem_toArray, List.getElem_cons_zero, List.getElem_cons_succ, List.setIfInBounds_toArray, List.set_cons_zero, List.set_cons_succ]
  refine upto_take (i := 5) (v := ?_) rfl (by kernel_rfl) (by kernel_rfl) (by kernel_rfl) (by kernel_rfl) (fun _ _ _ h => h) (by rfl) hS4 ?_ ?_
  rotate_left
  · intro wS hSw
    try dsimp only at hSw
    first | (go_simp; done) | (go_simp; with_reducible rfl)
  try simp only [Act.put, List.getElem_toArray, List.getElem_cons_zero, List.getElem_cons_succ, List.setIfInBounds_toArray, List.set_cons_zero, List.set_cons_succ]
  refine upto_step (i := 6) (by kernel_rfl) rfl ?_
  intro K hK
  go_simp
  refine (syncedUpTo_any _ d.synced (recU d.synced) _ (bytesR.below V3 hb34) hu (by omega)).mono ?_
  rintro e w5 ⟨v, F5, rfl, ho5, hb5⟩
  have ofm := loggR.ofO ho5
  obtain ⟨a6, a7, c6, c7, rfl⟩ := logg_form ofm
  have hS5 : (fun w' => Below w.heap.size w w' ∧ w'.cell? ⟨w3.heap.size, 0, none⟩ = some (.slice a3 d.synced.length c3)) w5 := ⟨bstep hS4.1 hb5, cell_keep hb5 hS4.2⟩
  have hb : Below w3.heap.size w3 w5 := bstep hb34 hb5
  have hB5 := hS5.1
  have hz4 : w.heap.size + 2 ≤ w4.heap.size := Nat.le_trans qz1 hb34.size
  refine hK _ _ (fun _ => hS5) ?_
  clear hK K
  try simp only [Act.put, List.getElem_toArray, List.getElem_cons_zero, List.getElem_cons_succ, List.setIfInBounds_toArray, List.set_cons_zero, List.set_cons_succ]
  have ho2 := loggR.base (base' := w.heap.size + 2) ho5 hz4
  clear ho5 hb5 hb34
  have pr0 := cell_keep hb qr0
  have pr1 := cell_keep hb qr1
  have pr2 := cell_keep hb qr2
  have prf := (boxKeep ⟨qrf, qz1⟩ hb).1
  have pz0 := Nat.lt_of_lt_of_le qz0 hb.size
  have pz1 := Nat.lt_of_lt_of_le qz1 hb.size
  clear qr0 qr1 qr2 qrf qz0 qz1
  refine upto_take (i := 7) (v := ?_) rfl (by kernel_rfl) (by kernel_rfl) (by kernel_rfl) (by kernel_rfl) (fun _ _ _ h => h) (by rfl) hS5 ?_ ?_
  rotate_left
  · intro wS hSw
    try dsimp only at hSw
    first | (go_simp; done) | (go_simp; with_reducible rfl)
  try simp only [Act.put, List.getElem_toArray, List.getElem_cons_zero, List.getElem_cons_succ, List.setIfInBounds_toArray, List.set_cons_zero, List.set_cons_succ]
  refine upto_step (i := 8) (by kernel_rfl) rfl ?_
  intro K hK
  go_simp
  refine hK _ _ (fun h => absurd rfl h) ?_
  clear hK K
  refine upto_done (by kernel_rfl) ?_
  refine NoPanic.normal ?_
  clear hS hS4 hS5 hb hz4
  go_wp2
  have HO2 := loggR_of ho2
  refine bodyPost_ret (v := .agg #[.int .i64 0, .slice a6 (List.take (recU d.synced) d.synced).length c6, .slice a7 0 c7]) ?_ rfl ?_
  · simp [results, Try.results16, go_sem, pr0, pr1, pr2]
    try omega
  · first | refine ⟨_, F5, rfl, ?_, by (repeat (first | exact Below.refl _ _ | assumption | refine Below.drew ?_ | refine balloc ?_ _ | refine bset ?_ (by simp; omega) _ | refine bset ?_ (by simp) _ | refine bstep ?_ (by assumption)))⟩ | refine ⟨_, rfl, ⟨F5, ?_⟩, by (repeat (first | exact Below.refl _ _ | assumption | refine Below.drew ?_ | refine balloc ?_ _ | refine bset ?_ (by simp; omega) _ | refine bset ?_ (by simp) _ | refine bstep ?_ (by assumption)))⟩
    rw [HD.out]
    exact loggRR.base (base := w.heap.size + 2) (by (repeat (first | assumption | refine Rep.set _ ?_ _ (by simp; omega) | refine Rep.set _ ?_ _ (by simp) | refine Rep.alloc _ ?_ _ | refine Rep.keep _ ?_ (by assumption)))) (by omega)

end Go.Proofs.Ytfeolikagceohaa
