/-
  Contracts as values: the law's own copy, comparison and count of a contract.
-/
import Derived.Test.YteebglgbeijolaaToLegs
namespace Go.Proofs.Yteebglgbeijolaa
open Go.RowKit
set_option linter.unusedSectionVars false
variable [DecidableEq Leg] [Inhabited Leg]
attribute [local go_sem ↓] Go.wp_at_zero Go.wp_at_succ

theorem LegsV_below {w w' : World} {v : Value} {xs : List Leg} (h : LegsV w v xs) (hb : Below w.heap.size w w') : LegsV w' v xs := by
  obtain ⟨a, cap, rfl, h1, h2, h3⟩ := h
  exact ⟨a, cap, rfl, h1, h2, fun i hi => by
    obtain ⟨b, o, ha, hc⟩ := h3 i hi
    exact ⟨b, o, ha, legCells_below hb hc⟩⟩

def szF (left n : Int) : Int := if left < n then -1 else left - n

set_option maxHeartbeats 400000 in
theorem szLegS_any (x : Value) (xs : List Leg) (left : Int) (w : World) (hx : LegsV w x xs) (h0 : 0 ≤ left) (h1 : left ≤ 1048576) :
    Calls Try.prog 87 #[x, .int .i64 left] w fun e w' => e = .returned (.int .i64 (szF left xs.length)) ∧ w' = w := by
  obtain ⟨ax, cx, rfl, hcx, hmx, hx⟩ := hx
  unfold maxLen at hmx
  generalize xs.length = n at *
  clear hx
  by_cases h : left < n
  · have h' : left - (n : Int) < 0 := by omega
    go_enter Try.func87, Try.ntmps87
    go_wp2
    go_ret
    exact ⟨by simp only [szF, if_pos h]; rfl, rfl⟩
  · have h' : ¬ left - (n : Int) < 0 := by omega
    go_enter Try.func87, Try.ntmps87
    go_wp2
    go_ret
    exact ⟨by rw [szF, if_neg (by omega)]; rfl, rfl⟩

set_option maxHeartbeats 400000 in
theorem szContract_any (id : Int) (x : Value) (xs : List Leg) (left : Int) (w : World) (hx : LegsV w x xs) (h0 : 0 ≤ left) (h1 : left ≤ 1048576) :
    Calls Try.prog 35 #[.agg #[.int .i64 id, x], .int .i64 left] w fun e w' => e = .returned (.int .i64 (szF left xs.length)) ∧ Below w.heap.size w w' := by
  go_enter Try.func35, Try.ntmps35
  go_wp2_with fail
  refine (szLegS_any x xs left _ (LegsV_below hx (balloc (Below.refl _ _) _)) h0 h1).mono ?_
  rintro e w1 ⟨rfl, rfl⟩
  go_wp2
  · rename_i h
    go_ret
    refine ⟨?_, balloc (Below.refl _ _) _⟩
    have : szF left xs.length = -1 := by unfold szF at h ⊢; split at h <;> simp_all <;> omega
    rw [this]; rfl
  · go_ret
    exact ⟨rfl, balloc (Below.refl _ _) _⟩

set_option maxHeartbeats 400000 in
theorem toContract_any (id : Int) (x : Value) (xs : List Leg) (w : World) (hx : LegsV w x xs) (hn : xs.length ≤ 1048576) :
    Calls Try.prog 38 #[.agg #[.int .i64 id, x]] w fun e w' => ∃ v, e = .returned (.agg #[.int .i64 id, v]) ∧ w'.ownsRow w.heap.size 97 4 v xs.length (legsC xs) ∧ Below w.heap.size w w' := by
  go_enter Try.func38, Try.ntmps38
  go_wp2_with fail
  refine (toLegS_any x xs _ (LegsV_below hx (balloc (balloc (balloc (Below.refl _ _) _) _) _)) hn).mono ?_
  rintro e w1 ⟨v, rfl, ho, hb⟩
  obtain ⟨a, c, rfl⟩ := owns_form ho
  obtain ⟨hc, hf⟩ := bcell hb
  have hz := hb.size
  simp at hz
  go_wp2
  refine bodyPost_ret (v := .agg #[.int .i64 id, .slice a xs.length c]) ?_ rfl ⟨_, rfl, ?_, ?_⟩
  · simp [results, Try.results38, go_sem, hc]
  · exact owns_base (owns_setCell (owns_setCell (owns_setCell ho (by simp) _) (by simp) _) (by simp) _) (by simp; omega)
  · exact bset (bset (bset (bstep (balloc (balloc (balloc (Below.refl _ _) _) _) _) hb) (by simp; omega) _) (by simp) _) (by simp) _

set_option maxHeartbeats 400000 in
theorem eqContract_any (id id' : Int) (x y : Value) (xs ys : List Leg) (w : World) (hx : LegsV w x xs) (hy : LegsV w y ys) :
    Calls Try.prog 42 #[.agg #[.int .i64 id, x], .agg #[.int .i64 id', y]] w fun e w' => e = .returned (.bool (decide (id = id' ∧ xs = ys))) ∧ Below w.heap.size w w' := by
  by_cases hid : id = id'
  · subst hid
    go_enter Try.func42, Try.ntmps42
    go_wp2_with fail
    refine (eqLegS_any x y xs ys _ (LegsV_below hx (balloc (balloc (Below.refl _ _) _) _)) (LegsV_below hy (balloc (balloc (Below.refl _ _) _) _))).mono ?_
    rintro e w1 ⟨rfl, hb⟩
    go_wp2
    all_goals
      rename_i h
      go_ret
      exact ⟨by simp at h; simp [h], bstep (balloc (balloc (Below.refl _ _) _) _) hb⟩
  · have hd : (id == id') = false := by simp [hid]
    go_enter Try.func42, Try.ntmps42
    go_wp2
    go_ret
    exact ⟨by simp [hid], balloc (balloc (Below.refl _ _) _) _⟩

end Go.Proofs.Yteebglgbeijolaa
