/-
  PackWrites, on both sides.
-/
import Derived.Test.YtdfapehonegeeaaWfS
import Derived.Test.YtdfapehonegeeaaWfI
import Derived.Test.YtdfapehonegeeaaVer
namespace Go.Proofs.Ytdfapehonegeeaa
open Go.RowKit
set_option linter.unusedSectionVars false
variable [DecidableEq Wri] [Inhabited Wri] [DecidableEq BytesR] [Inhabited BytesR] [DecidableEq Rw] [Inhabited Rw]
set_option linter.unusedVariables false
set_option linter.unusedSimpArgs false
attribute [local go_sem ↓] Go.wp_at_zero Go.wp_at_succ

def packWD (v : Int) (ws : List Wri) : BytesR := if inR v 1 1000000 = true then if wrF ws ≠ 0 then ⟨wrF ws, []⟩ else ⟨0, packB v ws⟩ else ⟨3, []⟩
theorem packWD_le (v : Int) (ws : List Wri) : (packWD v ws).bytes.length ≤ 500 := by
  unfold packWD
  split
  · split
    · simp
    · rename_i h
      have h4 := (wrF_inv (by simpa using h)).2.2.2
      rw [packB_ver 1 v] at h4
      exact h4
  · simp

set_option maxHeartbeats 2000000 in
theorem specPackW_u (v : Int) (x : Value) (ws : List Wri) (w : World) (hx : wrisR.V w x ws) :
    Calls Try.prog 36 #[.int .i64 v, x] w fun e w' => ∃ r F, e = .returned r ∧ bytesRR.O w' w.heap.size F r (packWD v ws) ∧ Below w.heap.size w w' := by
  have hX := hx
  obtain ⟨ax, cx, rfl⟩ := wris_form hx
  cases hin : inR v 1 1000000
  · have HD : Hid (packWD v ws = ⟨3, []⟩) := by unfold Hid packWD; rw [hin, if_neg (by decide)]
    go_enter Try.func36, Try.ntmps36
    go_wp2_with (go_at_call 80; refine (l1InR_any _ _ _ _).mono ?_; rintro e w' ⟨rfl, rfl⟩; rw [hin])
    refine bodyPost_ret (v := .agg #[.int .i64 3, .slice none 0 0]) (by simp [results, Try.results36, go_sem]) rfl ?_
    rw [HD.out]
    first | exact ⟨_, none_, rfl, bytesR_nil _ _ _, by (repeat (first | exact Below.refl _ _ | assumption | refine Below.drew ?_ | refine balloc ?_ _ | refine bset ?_ (by simp; omega) _ | refine bset ?_ (by simp) _ | refine bstep ?_ (by assumption)))⟩ | exact ⟨_, rfl, ⟨none_, bytesR_nil _ _ _⟩, by (repeat (first | exact Below.refl _ _ | assumption | refine Below.drew ?_ | refine balloc ?_ _ | refine bset ?_ (by simp; omega) _ | refine bset ?_ (by simp) _ | refine bstep ?_ (by assumption)))⟩
  · have HL : Hid (wrF ws = 0 → ws.length ≤ 8) := fun h => (wrF_inv h).2.1
    go_enter Try.func36, Try.ntmps36
    go_wp2_with (first | (go_at_call 80; refine (l1InR_any _ _ _ _).mono ?_; rintro e w' ⟨rfl, rfl⟩; rw [hin]) | fail)
    refine (specWf_any _ ws _ (wrisR.below hX (by (repeat (first | exact Below.refl _ _ | assumption | refine Below.drew ?_ | refine balloc ?_ _ | refine bset ?_ (by simp; omega) _ | refine bset ?_ (by simp) _ | refine bstep ?_ (by assumption)))))).mono ?_
    rintro e w1 ⟨rfl, hb1⟩
    have hB1 : Below w.heap.size w w1 := by (repeat (first | exact Below.refl _ _ | assumption | refine Below.drew ?_ | refine balloc ?_ _ | refine bset ?_ (by simp; omega) _ | refine bset ?_ (by simp) _ | refine bstep ?_ (by assumption)))
    have hr0 : w1.cell? ⟨w.heap.size, 0, none⟩ = some (.int .i64 0) := cell_keep hb1 (by simp [go_sem])
    have hr1 : w1.cell? ⟨w.heap.size, 1, none⟩ = some (.slice none 0 0) := cell_keep hb1 (by simp [go_sem])
    obtain ⟨hrf, hlt⟩ : (∀ o, w1.frozen? ⟨w.heap.size, o, none⟩ = false) ∧ w.heap.size < w1.heap.size := (boxNew2 hb1 (by simp)).2.2
    clear hb1
    by_cases hf : wrF ws = 0
    · have hl8 := HL.out hf
      have HDD : Hid (packWD v ws = ⟨0, packB v ws⟩) := by unfold Hid packWD; rw [hin, if_pos rfl, if_neg (by simpa using hf)]
      rw [hf]
      clear hf HL
      go_wp2_with fail
      refine (l6Pack_any v _ ws _ (wrisR.below hX (by (repeat (first | exact Below.refl _ _ | assumption | refine Below.drew ?_ | refine balloc ?_ _ | refine bset ?_ (by simp; omega) _ | refine bset ?_ (by simp) _ | refine bstep ?_ (by assumption))))) hl8).mono ?_
      rintro e w2 ⟨r, F, rfl, o2, hb2⟩
      have hB2 := bstep hB1 hb2
      replace hr0 := cell_keep hb2 hr0
      replace hr1 := cell_keep hb2 hr1
      obtain ⟨hrf2, hlt2⟩ := boxKeep ⟨hrf, hlt⟩ hb2
      have o3 := bytesR.base (base' := w.heap.size + 1) o2 (by omega)
      obtain ⟨p, q, rfl⟩ := bytes_form (bytesR.ofO o3)
      clear o2 hb2 hrf hB1 hX
      obtain ⟨D, hD⟩ : ∃ D, packB v ws = D := ⟨_, rfl⟩
      have HD : Hid (packB v ws = D) := hD
      rw [hD] at o3
      rw [hD]
      clear hD
      go_wp2
      refine bodyPost_ret (v := .agg #[.int .i64 0, .slice p D.length q]) ?_ rfl ?_
      · simp [results, Try.results36, go_sem, hr0, hr1]
      · rw [HDD.out, HD.out]
        first | refine ⟨_, F, rfl, ?_, by (repeat (first | exact Below.refl _ _ | assumption | refine Below.drew ?_ | refine balloc ?_ _ | refine bset ?_ (by simp; omega) _ | refine bset ?_ (by simp) _ | refine bstep ?_ (by assumption)))⟩ | refine ⟨_, rfl, ⟨F, ?_⟩, by (repeat (first | exact Below.refl _ _ | assumption | refine Below.drew ?_ | refine balloc ?_ _ | refine bset ?_ (by simp; omega) _ | refine bset ?_ (by simp) _ | refine bstep ?_ (by assumption)))⟩
        exact ⟨_, F, rfl, bytesR.base (base := w.heap.size + 1) (bytesR.set (bytesR.set o3 _ (by simp)) _ (by simp)) (by omega), fun b => Iff.rfl⟩
    · have HDD : Hid (packWD v ws = ⟨wrF ws, []⟩) := by unfold Hid packWD; rw [hin, if_pos rfl, if_pos hf]
      have hc : (wrF ws == 0) = false := by simpa using hf
      clear HL
      generalize wrF ws = c at *
      go_wp2
      refine bodyPost_ret (v := .agg #[.int .i64 c, .slice none 0 0]) ?_ rfl ?_
      · simp [results, Try.results36, go_sem, hr0, hr1]
      · rw [HDD.out]
        first | exact ⟨_, none_, rfl, bytesR_nil _ _ _, by (repeat (first | exact Below.refl _ _ | assumption | refine Below.drew ?_ | refine balloc ?_ _ | refine bset ?_ (by simp; omega) _ | refine bset ?_ (by simp) _ | refine bstep ?_ (by assumption)))⟩ | exact ⟨_, rfl, ⟨none_, bytesR_nil _ _ _⟩, by (repeat (first | exact Below.refl _ _ | assumption | refine Below.drew ?_ | refine balloc ?_ _ | refine bset ?_ (by simp; omega) _ | refine bset ?_ (by simp) _ | refine bstep ?_ (by assumption)))⟩

set_option maxHeartbeats 2000000 in
theorem implPackW_u (v : Int) (x : Value) (ws : List Wri) (w : World) (hx : wrisR.V w x ws) :
    Calls Try.prog 37 #[.int .i64 v, x] w fun e w' => ∃ r F, e = .returned r ∧ bytesRR.O w' w.heap.size F r (packWD v ws) ∧ Below w.heap.size w w' := by
  have hX := hx
  obtain ⟨ax, cx, rfl⟩ := wris_form hx
  cases hin : inR v 1 1000000
  · have HD : Hid (packWD v ws = ⟨3, []⟩) := by unfold Hid packWD; rw [hin, if_neg (by decide)]
    go_enter Try.func37, Try.ntmps37
    go_wp2_with (go_at_call 81; refine (isVersion_any _ _).mono ?_; rintro e w' ⟨rfl, rfl⟩; rw [hin])
    refine bodyPost_ret (v := .agg #[.int .i64 3, .slice none 0 0]) (by simp [results, Try.results37, go_sem]) rfl ?_
    rw [HD.out]
    first | exact ⟨_, none_, rfl, bytesR_nil _ _ _, by (repeat (first | exact Below.refl _ _ | assumption | refine Below.drew ?_ | refine balloc ?_ _ | refine bset ?_ (by simp; omega) _ | refine bset ?_ (by simp) _ | refine bstep ?_ (by assumption)))⟩ | exact ⟨_, rfl, ⟨none_, bytesR_nil _ _ _⟩, by (repeat (first | exact Below.refl _ _ | assumption | refine Below.drew ?_ | refine balloc ?_ _ | refine bset ?_ (by simp; omega) _ | refine bset ?_ (by simp) _ | refine bstep ?_ (by assumption)))⟩
  · have HL : Hid (wrF ws = 0 → ws.length ≤ 8) := fun h => (wrF_inv h).2.1
    go_enter Try.func37, Try.ntmps37
    go_wp2_with (first | (go_at_call 81; refine (isVersion_any _ _).mono ?_; rintro e w' ⟨rfl, rfl⟩; rw [hin]) | fail)
    refine (implWf_any _ ws _ (wrisR.below hX (by (repeat (first | exact Below.refl _ _ | assumption | refine Below.drew ?_ | refine balloc ?_ _ | refine bset ?_ (by simp; omega) _ | refine bset ?_ (by simp) _ | refine bstep ?_ (by assumption)))))).mono ?_
    rintro e w1 ⟨rfl, hb1⟩
    have hB1 : Below w.heap.size w w1 := by (repeat (first | exact Below.refl _ _ | assumption | refine Below.drew ?_ | refine balloc ?_ _ | refine bset ?_ (by simp; omega) _ | refine bset ?_ (by simp) _ | refine bstep ?_ (by assumption)))
    have hr0 : w1.cell? ⟨w.heap.size, 0, none⟩ = some (.int .i64 0) := cell_keep hb1 (by simp [go_sem])
    have hr1 : w1.cell? ⟨w.heap.size, 1, none⟩ = some (.slice none 0 0) := cell_keep hb1 (by simp [go_sem])
    obtain ⟨hrf, hlt⟩ : (∀ o, w1.frozen? ⟨w.heap.size, o, none⟩ = false) ∧ w.heap.size < w1.heap.size := (boxNew2 hb1 (by simp)).2.2
    clear hb1
    by_cases hf : wrF ws = 0
    · have hl8 := HL.out hf
      have HDD : Hid (packWD v ws = ⟨0, packB v ws⟩) := by unfold Hid packWD; rw [hin, if_pos rfl, if_neg (by simpa using hf)]
      rw [hf]
      clear hf HL
      go_wp2_with fail
      refine (bytesOf_any v _ ws _ (wrisR.below hX (by (repeat (first | exact Below.refl _ _ | assumption | refine Below.drew ?_ | refine balloc ?_ _ | refine bset ?_ (by simp; omega) _ | refine bset ?_ (by simp) _ | refine bstep ?_ (by assumption))))) hl8).mono ?_
      rintro e w2 ⟨r, F, rfl, o2, hb2⟩
      have hB2 := bstep hB1 hb2
      replace hr0 := cell_keep hb2 hr0
      replace hr1 := cell_keep hb2 hr1
      obtain ⟨hrf2, hlt2⟩ := boxKeep ⟨hrf, hlt⟩ hb2
      have o3 := bytesR.base (base' := w.heap.size + 1) o2 (by omega)
      obtain ⟨p, q, rfl⟩ := bytes_form (bytesR.ofO o3)
      clear o2 hb2 hrf hB1 hX
      obtain ⟨D, hD⟩ : ∃ D, packB v ws = D := ⟨_, rfl⟩
      have HD : Hid (packB v ws = D) := hD
      rw [hD] at o3
      rw [hD]
      clear hD
      go_wp2
      refine bodyPost_ret (v := .agg #[.int .i64 0, .slice p D.length q]) ?_ rfl ?_
      · simp [results, Try.results37, go_sem, hr0, hr1]
      · rw [HDD.out, HD.out]
        first | refine ⟨_, F, rfl, ?_, by (repeat (first | exact Below.refl _ _ | assumption | refine Below.drew ?_ | refine balloc ?_ _ | refine bset ?_ (by simp; omega) _ | refine bset ?_ (by simp) _ | refine bstep ?_ (by assumption)))⟩ | refine ⟨_, rfl, ⟨F, ?_⟩, by (repeat (first | exact Below.refl _ _ | assumption | refine Below.drew ?_ | refine balloc ?_ _ | refine bset ?_ (by simp; omega) _ | refine bset ?_ (by simp) _ | refine bstep ?_ (by assumption)))⟩
        exact ⟨_, F, rfl, bytesR.base (base := w.heap.size + 1) (bytesR.set (bytesR.set o3 _ (by simp)) _ (by simp)) (by omega), fun b => Iff.rfl⟩
    · have HDD : Hid (packWD v ws = ⟨wrF ws, []⟩) := by unfold Hid packWD; rw [hin, if_pos rfl, if_pos hf]
      have hc : (wrF ws == 0) = false := by simpa using hf
      clear HL
      generalize wrF ws = c at *
      go_wp2
      refine bodyPost_ret (v := .agg #[.int .i64 c, .slice none 0 0]) ?_ rfl ?_
      · simp [results, Try.results37, go_sem, hr0, hr1]
      · rw [HDD.out]
        first | exact ⟨_, none_, rfl, bytesR_nil _ _ _, by (repeat (first | exact Below.refl _ _ | assumption | refine Below.drew ?_ | refine balloc ?_ _ | refine bset ?_ (by simp; omega) _ | refine bset ?_ (by simp) _ | refine bstep ?_ (by assumption)))⟩ | exact ⟨_, rfl, ⟨none_, bytesR_nil _ _ _⟩, by (repeat (first | exact Below.refl _ _ | assumption | refine Below.drew ?_ | refine balloc ?_ _ | refine bset ?_ (by simp; omega) _ | refine bset ?_ (by simp) _ | refine bstep ?_ (by assumption)))⟩

end Go.Proofs.Ytdfapehonegeeaa
