/-
  One more record in a log, on both sides.
-/
import Derived.Test.YtfeolikagceohaaLogG
namespace Go.Proofs.Ytfeolikagceohaa
open Go.RowKit
set_option linter.unusedSectionVars false
variable [DecidableEq Logg] [Inhabited Logg] [DecidableEq LoggR] [Inhabited LoggR] [DecidableEq BytesR] [Inhabited BytesR] [DecidableEq RecsR] [Inhabited RecsR] [DecidableEq Leg] [Inhabited Leg]
set_option linter.unusedSimpArgs false
attribute [local go_sem ↓] Go.wp_at_zero Go.wp_at_succ

def appD (d : Logg) (xs : List Byte) : LoggR := if logF d = 0 then (if 1 ≤ xs.length ∧ xs.length ≤ 500 then (if logF ⟨d.synced, d.loose ++ frameB xs⟩ = 0 then ⟨0, ⟨d.synced, d.loose ++ frameB xs⟩⟩ else codeD 2) else codeD 2) else codeD 2
theorem appD_le (d : Logg) (xs : List Byte) : wtLoggR (appD d xs) ≤ 6000 := by
  unfold appD
  split
  · split
    · split
      · rename_i h
        rcases logF_cases ⟨d.synced, d.loose ++ frameB xs⟩ with ⟨_, hl⟩ | h2
        · simp only [wtLoggR, wtLogg, wtBytes]
          exact hl
        · omega
      · exact codeD_le 2
    · exact codeD_le 2
  · exact codeD_le 2

set_option maxHeartbeats 2000000 in
theorem specApp_u (x : Value) (d : Logg) (y : Value) (xs : List Byte) (w : World) (hx : loggR.V w x d) (hn : wtLogg d ≤ 1048576) (hy : bytesR.V w y xs) :
    Calls Try.prog 20 #[x, y] w fun e w' => ∃ v F, e = .returned v ∧ loggRR.O w' w.heap.size F v (appD d xs) ∧ Below w.heap.size w w' := by
  have hX := hx
  obtain ⟨a1, a2, c1, c2, rfl⟩ := logg_form hx
  obtain ⟨ay, cy, rfl⟩ := bytes_form hy
  go_enter Try.func20, Try.ntmps20
  go_wp2_with fail
  refine (specLogF_any _ d _ (loggR.below hX (by (repeat (first | exact Below.refl _ _ | assumption | refine Below.drew ?_ | refine balloc ?_ _ | refine bset ?_ (by simp; omega) _ | refine bset ?_ (by simp) _ | refine bstep ?_ (by assumption))))) hn).mono ?_
  rintro e w1 ⟨rfl, hb1⟩
  have x0 : w1.cell? ⟨w.heap.size, 0, none⟩ = some (.slice a1 d.synced.length c1) := cell_keep hb1 (by simp [go_sem])
  have x1 : w1.cell? ⟨w.heap.size, 1, none⟩ = some (.slice a2 d.loose.length c2) := cell_keep hb1 (by simp [go_sem])
  have r0 : w1.cell? ⟨w.heap.size + 1, 0, none⟩ = some (.int .i64 0) := cell_keep hb1 (by simp [go_sem])
  have r1 : w1.cell? ⟨w.heap.size + 1, 1, none⟩ = some (.slice none 0 0) := cell_keep hb1 (by simp [go_sem])
  have r2 : w1.cell? ⟨w.heap.size + 1, 2, none⟩ = some (.slice none 0 0) := cell_keep hb1 (by simp [go_sem])
  have rf : ∀ o, w1.frozen? ⟨w.heap.size + 1, o, none⟩ = false := fun o => by rw [(bcell hb1).2 _ _ (by simp)]; simp [go_sem]
  have s1 := hb1.size
  simp only [World.size_alloc] at s1
  have hB1 : Below w.heap.size w w1 := by (repeat (first | exact Below.refl _ _ | assumption | refine Below.drew ?_ | refine balloc ?_ _ | refine bset ?_ (by simp; omega) _ | refine bset ?_ (by simp) _ | refine bstep ?_ (by assumption)))
  clear hb1
  have z0 : w.heap.size < w1.heap.size := by omega
  have z1 : w.heap.size + 1 < w1.heap.size := by omega
  rcases logF_cases d with ⟨h0, hl⟩ | h0
  rotate_left
  · have HD : Hid (appD d xs = codeD 2) := by unfold Hid appD; rw [if_neg (by omega)]
    rw [h0]
    go_wp2
    refine bodyPost_ret (v := .agg #[.int .i64 2, .slice none 0 0, .slice none 0 0]) ?_ rfl ?_
    · simp [results, Try.results20, go_sem, r0, r1, r2]
    · rw [HD.out]
      exact ⟨_, none_, rfl, loggR_code _ _ _, by (repeat (first | exact Below.refl _ _ | assumption | refine Below.drew ?_ | refine balloc ?_ _ | refine bset ?_ (by simp; omega) _ | refine bset ?_ (by simp) _ | refine bstep ?_ (by assumption)))⟩
  rw [h0]
  have hXw := loggR.below hX hB1
  clear hX hx
  have hY := bytesR.below hy hB1
  clear hy
  have h2m : ∀ W : World, Below w1.heap.size w1 W → bytesR.V W (.slice ay xs.length cy) xs := fun W hW => bytesR.below hY hW
  go_wp2_with fail
  refine (specFrame_u _ xs _ hY).mono ?_
  rintro e w2 ⟨v, F, rfl, ho, hb⟩
  have hB2 : Below w.heap.size w w2 := bstep hB1 hb
  have ofm := bytesRR.ofO ho
  by_cases h5 : 1 ≤ xs.length ∧ xs.length ≤ 500
  rotate_left
  · have HD : Hid (appD d xs = codeD 2) := by unfold Hid appD; rw [if_pos h0, if_neg h5]
    have hfd : frameD xs = ⟨2, []⟩ := if_neg h5
    rw [hfd] at ofm
    obtain ⟨a3, c3, rfl⟩ := bytesR_form ofm
    have qx0 := cell_keep hb x0
    have qx1 := cell_keep hb x1
    have qr0 := cell_keep hb r0
    have qr1 := cell_keep hb r1
    have qr2 := cell_keep hb r2
    have qrf := (boxKeep ⟨rf, z1⟩ hb).1
    have qz0 := Nat.lt_of_lt_of_le z0 hb.size
    have qz1 := Nat.lt_of_lt_of_le z1 hb.size
    clear x0 x1 r0 r1 r2 rf z0 z1
    clear ho hb hB1 hXw ofm h2m hY
    go_wp2
    refine bodyPost_ret (v := .agg #[.int .i64 2, .slice none 0 0, .slice none 0 0]) ?_ rfl ?_
    · simp [results, Try.results20, go_sem, qr0, qr1, qr2, qz1]
    · rw [HD.out]
      exact ⟨_, none_, rfl, loggR_code _ _ _, by (repeat (first | exact Below.refl _ _ | assumption | refine Below.drew ?_ | refine balloc ?_ _ | refine bset ?_ (by simp; omega) _ | refine bset ?_ (by simp) _ | refine bstep ?_ (by assumption)))⟩
  have hfd : frameD xs = ⟨0, frameB xs⟩ := if_pos h5
  rw [hfd] at ofm
  obtain ⟨u3, e3, V3⟩ := ofm
  subst e3
  obtain ⟨a3, c3, rfl⟩ := bytes_form V3
  have qx0 := cell_keep hb x0
  have qx1 := cell_keep hb x1
  have qr0 := cell_keep hb r0
  have qr1 := cell_keep hb r1
  have qr2 := cell_keep hb r2
  have qrf := (boxKeep ⟨rf, z1⟩ hb).1
  have qz0 := Nat.lt_of_lt_of_le z0 hb.size
  have qz1 := Nat.lt_of_lt_of_le z1 hb.size
  clear x0 x1 r0 r1 r2 rf z0 z1
  have hW2 := hb
  clear ho hb
  go_wp2_with fail
  refine (l4Append_any _ _ d xs _ (loggR.below hXw (by (repeat (first | exact Below.refl _ _ | assumption | refine Below.drew ?_ | refine balloc ?_ _ | refine bset ?_ (by simp; omega) _ | refine bset ?_ (by simp) _ | refine bstep ?_ (by assumption))))) (h2m _ (by (repeat (first | exact Below.refl _ _ | assumption | refine Below.drew ?_ | refine balloc ?_ _ | refine bset ?_ (by simp; omega) _ | refine bset ?_ (by simp) _ | refine bstep ?_ (by assumption))))) hl h5.2).mono ?_
  rintro e w3 ⟨v, F, rfl, ho, hb⟩
  have hbw : Below w2.heap.size w2 w3 := bstep (by (repeat (first | exact Below.refl _ _ | assumption | refine Below.drew ?_ | refine balloc ?_ _ | refine bset ?_ (by simp; omega) _ | refine bset ?_ (by simp) _ | refine bstep ?_ (by assumption)))) hb
  have hB3 : Below w.heap.size w w3 := bstep hB2 hbw
  have hz3 : w.heap.size + 2 ≤ w2.heap.size := qz1
  have px0 := cell_keep hbw qx0
  have px1 := cell_keep hbw qx1
  have pr0 := cell_keep hbw qr0
  have pr1 := cell_keep hbw qr1
  have pr2 := cell_keep hbw qr2
  have prf := (boxKeep ⟨qrf, qz1⟩ hbw).1
  have pz0 := Nat.lt_of_lt_of_le qz0 hbw.size
  have pz1 := Nat.lt_of_lt_of_le qz1 hbw.size
  clear qx0 qx1 qr0 qr1 qr2 qrf qz0 qz1
  have ho2 := loggR.base (base' := w.heap.size + 2) ho (by simp; omega)
  obtain ⟨a4, a5, c4, c5, rfl⟩ := logg_form (loggR.ofO ho2)
  clear ho hb hXw h2m hY hB1 hB2 V3
  rcases logF_cases ⟨d.synced, d.loose ++ frameB xs⟩ with ⟨hc, hl2⟩ | hc
  · have HD : Hid (appD d xs = ⟨0, ⟨d.synced, d.loose ++ frameB xs⟩⟩) := by unfold Hid appD; rw [if_pos h0, if_pos h5, if_pos hc]
    rw [hc]
    clear hc hl2
    generalize d.loose ++ frameB xs = bs at *
    go_wp2
    have HO2 := loggR_of ho2
    refine bodyPost_ret (v := .agg #[.int .i64 0, .slice a4 d.synced.length c4, .slice a5 bs.length c5]) ?_ rfl ?_
    · simp [results, Try.results20, go_sem, pr0, pr1, pr2, pz1]
      try omega
    · first | refine ⟨_, F, rfl, ?_, by (repeat (first | exact Below.refl _ _ | assumption | refine Below.drew ?_ | refine balloc ?_ _ | refine bset ?_ (by simp; omega) _ | refine bset ?_ (by simp) _ | refine bstep ?_ (by assumption)))⟩ | refine ⟨_, rfl, ⟨F, ?_⟩, by (repeat (first | exact Below.refl _ _ | assumption | refine Below.drew ?_ | refine balloc ?_ _ | refine bset ?_ (by simp; omega) _ | refine bset ?_ (by simp) _ | refine bstep ?_ (by assumption)))⟩
      rw [HD.out]
      exact loggRR.base (base := w.heap.size + 2) (by (repeat (first | assumption | refine Rep.set _ ?_ _ (by simp; omega) | refine Rep.set _ ?_ _ (by simp) | refine Rep.alloc _ ?_ _ | refine Rep.keep _ ?_ (by assumption)))) (by omega)
  · have HD : Hid (appD d xs = codeD 2) := by unfold Hid appD; rw [if_pos h0, if_pos h5, if_neg (by omega)]
    rw [hc]
    clear hc
    generalize d.loose ++ frameB xs = bs at *
    go_wp2
    refine bodyPost_ret (v := .agg #[.int .i64 2, .slice none 0 0, .slice none 0 0]) ?_ rfl ?_
    · simp [results, Try.results20, go_sem, pr0, pr1, pr2, pz1]
    · rw [HD.out]
      exact ⟨_, none_, rfl, loggR_code _ _ _, by (repeat (first | exact Below.refl _ _ | assumption | refine Below.drew ?_ | refine balloc ?_ _ | refine bset ?_ (by simp; omega) _ | refine bset ?_ (by simp) _ | refine bstep ?_ (by assumption)))⟩

end Go.Proofs.Ytfeolikagceohaa
