/-
  Marks of rows of Write. (Written by program: strow.py.)
-/
import Derived.Test.YtdfapehonegeeaaWriT
import Derived.Test.YtdfapehonegeeaaMrkT
namespace Go.Proofs.Ytdfapehonegeeaa
open Go.RowKit
set_option linter.unusedSectionVars false
variable [DecidableEq Wri] [Inhabited Wri]
set_option linter.unusedVariables false
set_option linter.unusedSimpArgs false
attribute [local go_sem ↓] Go.wp_at_zero Go.wp_at_succ

def wriMark (k : Int) (i : Nat) : Wri := ⟨markT (k + 3 * i), markT (k + 3 * i + 1), (k + 3 * i + 1 + 1) % 3 == 0⟩
def wriMarks (k : Int) (n : Nat) : List Wri := (List.range n).map (wriMark k)
theorem length_wriMarks (k : Int) (n : Nat) : (wriMarks k n).length = n := by simp [wriMarks]
theorem getD_wriMarks (k : Int) (n i : Nat) (h : i < n) : (wriMarks k n).getD i default = wriMark k i := by simp [wriMarks, List.getD, h]
theorem wriMarks_fit {k : Int} {n : Nat} (h0 : 0 ≤ k) (h : k + 3 * n ≤ 1073741824) : FitWri (wriMarks k n) := by
  intro i hi
  rw [length_wriMarks] at hi
  rw [getD_wriMarks k n i hi]
  have g0 := markT_size (k + 3 * i)
  have g1 := markT_size (k + 3 * i + 1)
  unfold wriMark maxLen
  dsimp only
  omega

set_option maxRecDepth 100000 in
set_option maxHeartbeats 2000000 in
theorem markWriteS_any (v : Value) (n : Nat) (cs : List Value) (base e : Nat) (k : Int) (w : World) (ho : w.ownsRow base e 3 v n cs) (hn : n ≤ 1048576) (hk0 : 0 ≤ k) (hk1 : k + 3 * n ≤ 1073741824) :
    Calls Try.prog 39 #[v, .int .i64 k] w fun r w' => r = .returned (.int .i64 (k + 3 * n)) ∧ w'.ownsRow base e 3 v n (wrisC (wriMarks k n)) ∧ w.grownBy w' v.ownBlock := by
  rcases ho.2 with ⟨rfl, rfl⟩ | ⟨g, cap, cur, rfl, hb, hg, hnc, hcm, _, _⟩
  · go_enter Try.func39, Try.ntmps39
    go_wp2
    go_loopw [1, 5] (fun q i w' => q = .int .i64 k ∧ i = .int .i64 0 ∧ w' = w) (fun _ _ _ => 0)
    case atStart => exact ⟨rfl, rfl, rfl⟩
    case round =>
      obtain ⟨rfl, rfl, rfl⟩ := hrel
      go_wp2
      go_ret
      exact ⟨by simp, World.ownsRow_nil _ _ _ _, ⟨rfl, rfl, rfl, Nat.le_refl _, fun _ _ _ => rfl⟩⟩
  · unfold maxLen at hcm
    go_enter Try.func39, Try.ntmps39
    go_wp2
    go_loopw [1, 5] (fun q i w' => ∃ (j : Nat) (cs' : List Value), j ≤ n ∧ i = .int .i64 j ∧ q = .int .i64 (k + 3 * j) ∧ w'.ownsRow base e 3 (.slice (some ⟨g, 0, none⟩) n cap) n cs' ∧ Hid (wrisUpto j cs' (wriMarks k n)) ∧ w.grownBy w' (some g)) (fun _ i _ => n - (intOf i).toNat)
    case atStart => exact ⟨0, cs, Nat.zero_le _, rfl, by simp, ho, fun j h => by omega, ⟨rfl, rfl, rfl, Nat.le_refl _, fun _ _ _ => rfl⟩⟩
    case round =>
      obtain ⟨j, cs', hj, rfl, rfl, ho1, HU, hgr⟩ := hrel
      clear ho hg
      by_cases hlt : j < n
      · have hjn : (j : Int) < n := by omega
        go_wp2_with fail
        refine (markText_any (k + 3 * j) _ (by omega) (by omega)).mono ?_
        rintro r wa0 ⟨rfl, hba0⟩
        have hoo0 := owns_below ho1 hba0
        obtain ⟨u0, g0⟩ := owns_some hoo0 (j * 3) (by omega)
        have hf0 := fun j => hoo0.frozenAt j
        have hz0 := World.block_lt_of_cell? _ _ g0
        dsimp only at hz0
        generalize hT0 : markT (k + 3 * j) = T0 at *
        have HT0 : Hid (markT (k + 3 * j) = T0) := hT0
        clear hT0
        have s0 := hoo0.stored (j * 3) (.string T0)
        go_wp2_with fail
        refine (markText_any (k + 3 * j + 1) _ (by omega) (by omega)).mono ?_
        rintro r wa1 ⟨rfl, hba1⟩
        have hoo1 := owns_below s0.1 hba1
        obtain ⟨u1, g1⟩ := owns_some hoo1 (j * 3 + 1) (by omega)
        obtain ⟨u2, g2⟩ := owns_some hoo1 (j * 3 + 2) (by omega)
        have hf1 := fun j => hoo1.frozenAt j
        have hz1 := World.block_lt_of_cell? _ _ g1
        dsimp only at hz1
        generalize hT1 : markT (k + 3 * j + 1) = T1 at *
        have HT1 : Hid (markT (k + 3 * j + 1) = T1) := hT1
        clear hT1
        have s1 := hoo1.stored (j * 3 + 1) (.string T1)
        have s2 := s1.1.stored (j * 3 + 2) (.bool ((k + 3 * j + 1 + 1) % 3 == 0))
        go_wp2
        refine ⟨⟨j + 1, _, by omega, by go_num, by congr 1; omega, s2.1, ?_, ?_⟩, by simp [intOf]; omega⟩
        · exact wrisUpto_set (x := ⟨T0, T1, (k + 3 * j + 1 + 1) % 3 == 0⟩) HU.out (by rw [length_wriMarks]; exact hlt) (by rw [length_wriMarks]; exact ho1.1) (by rw [getD_wriMarks k n j hlt, ← HT0.out, ← HT1.out]; rfl)
        · exact grownTrans (grownTrans (grownTrans (grownTrans (grownTrans (hgr) (grownAny (grown_of_below hba0))) s0.2) (grownAny (grown_of_below hba1))) s1.2) s2.2
      · go_wp2
        go_ret
        have hjn : j = n := by omega
        subst hjn
        have e' := wrisUpto_full HU.out ho1.1 (length_wriMarks k j)
        rw [e'] at ho1
        exact ⟨rfl, ho1, hgr⟩

def cntWris (xs : List Wri) : Nat := 3 * xs.length
def mkWris (k : Int) (xs : List Wri) : List Wri := wriMarks k xs.length
theorem wris_cnt (d : List Wri) : cntWris d ≤ 3 * wtWris d := by unfold cntWris wtWris; omega

theorem markWriteS_u (v : Value) (d : List Wri) (base : Nat) (F : Nat → Prop) (k : Int) (w : World) (ho : wrisR.O w base F v d) (hw : wtWris d ≤ 1048576) (hn : k + cntWris d ≤ 1073741824) (hk0 : 0 ≤ k) :
    Calls Try.prog 39 #[v, .int .i64 k] w fun r w' => r = .returned (.int .i64 (k + cntWris d)) ∧ wrisR.O w' base F v (mkWris k d) ∧ Mod F w w' := by
  refine (markWriteS_any v d.length _ base _ k w ho.1.1 (by unfold wtWris at hw; omega) hk0 (by unfold cntWris at hn; omega)).mono ?_
  rintro e w' ⟨rfl, h1, h2⟩
  refine ⟨by simp [cntWris], ⟨⟨?_, ho.1.2⟩, wriMarks_fit hk0 (by unfold cntWris at hn; omega)⟩, by rw [ho.1.2]; exact Mod.of_grown h2⟩
  unfold mkWris
  rw [length_wriMarks]
  exact h1

end Go.Proofs.Ytdfapehonegeeaa
