/-
  Marks written into a row of legs that the law owns, and read back.
-/
import Derived.Test.YteebglgbeijolaaCon
namespace Go.Proofs.Yteebglgbeijolaa
open Go.RowKit
set_option linter.unusedSectionVars false
variable [DecidableEq Leg] [Inhabited Leg]
attribute [local go_sem ↓] Go.wp_at_zero Go.wp_at_succ

def markL (k : Int) (i : Nat) : Leg := ⟨k + 4 * i, k + 4 * i + 1, k + 4 * i + 1 + 1, k + 4 * i + 1 + 1 + 1⟩
def marksL (k : Int) (n : Nat) : List Leg := (List.range n).map (markL k)
theorem length_marksL (k : Int) (n : Nat) : (marksL k n).length = n := by simp [marksL]
theorem getD_marksL (k : Int) (n i : Nat) (h : i < n) : (marksL k n).getD i default = markL k i := by simp [marksL, List.getD, h]

theorem grown_refl (w : World) (r : Option Nat) : w.grownBy w r := ⟨rfl, rfl, rfl, Nat.le_refl _, fun _ _ _ => rfl⟩
theorem grown_trans {w w1 w2 : World} {r : Option Nat} (h : w.grownBy w1 r) (k : w1.grownBy w2 r) : w.grownBy w2 r :=
  ⟨k.os.trans h.os, k.tape.trans h.tape, k.output.trans h.output, Nat.le_trans h.size k.size, fun i hi hr => (k.block i (Nat.lt_of_lt_of_le hi h.size) hr).trans (h.block i hi hr)⟩

set_option maxHeartbeats 1000000 in
theorem markLegS_any (v : Value) (n : Nat) (cs : List Value) (base e : Nat) (k : Int) (w : World) (ho : w.ownsRow base e 4 v n cs) (hn : n ≤ 1048576) (hk0 : 0 ≤ k) (hk1 : k ≤ 1073741824) :
    Calls Try.prog 99 #[v, .int .i64 k] w fun r w' => r = .returned (.int .i64 (k + 4 * n)) ∧ w'.ownsRow base e 4 v n (legsC (marksL k n)) ∧ w.grownBy w' v.ownBlock := by
  rcases ho.2 with ⟨rfl, rfl⟩ | ⟨g, cap, cur, rfl, hb, hg, hnc, hcm, _, _⟩
  · go_enter Try.func99, Try.ntmps99
    go_wp2
    go_loopw [1, 5] (fun q i w' => q = .int .i64 k ∧ i = .int .i64 0 ∧ w' = w) (fun _ _ _ => 0)
    case atStart => exact ⟨rfl, rfl, rfl⟩
    case round =>
      obtain ⟨rfl, rfl, rfl⟩ := hrel
      go_wp2
      go_ret
      exact ⟨by simp, World.ownsRow_nil _ _ _ _, grown_refl _ _⟩
  · unfold maxLen at hcm
    go_enter Try.func99, Try.ntmps99
    go_wp2
    go_loopw [1, 5] (fun q i w' => ∃ (j : Nat) (cs' : List Value), j ≤ n ∧ i = .int .i64 j ∧ q = .int .i64 (k + 4 * j) ∧ w'.ownsRow base e 4 (.slice (some ⟨g, 0, none⟩) n cap) n cs' ∧ upto j cs' (marksL k n) ∧ w.grownBy w' (some g)) (fun _ i _ => n - (intOf i).toNat)
    case atStart => exact ⟨0, cs, Nat.zero_le _, rfl, by simp, ho, fun j h => by omega, grown_refl _ _⟩
    case round =>
      obtain ⟨j, cs', hj, rfl, rfl, ho1, hup, hgr⟩ := hrel
      have HU : Hid (upto j cs' (marksL k n)) := hup
      clear hup ho hg
      by_cases hlt : j < n
      · obtain ⟨u0, g0⟩ := owns_some ho1 (j * 4) (by omega)
        obtain ⟨u1, g1⟩ := owns_some ho1 (j * 4 + 1) (by omega)
        obtain ⟨u2, g2⟩ := owns_some ho1 (j * 4 + 2) (by omega)
        obtain ⟨u3, g3⟩ := owns_some ho1 (j * 4 + 3) (by omega)
        have hf := fun j => ho1.frozenAt j
        go_wp2
        have s0 := ho1.stored (j * 4) (.int .i64 (k + 4 * j))
        have s1 := s0.1.stored (j * 4 + 1) (.int .i64 (k + 4 * j + 1))
        have s2 := s1.1.stored (j * 4 + 2) (.int .i64 (k + 4 * j + 1 + 1))
        have s3 := s2.1.stored (j * 4 + 3) (.int .i64 (k + 4 * j + 1 + 1 + 1))
        refine ⟨⟨j + 1, _, by omega, by go_num, ?_, s3.1, upto_set (l := markL k j) HU.out (by rw [length_marksL]; exact hlt) (by rw [length_marksL]; exact ho1.1) (getD_marksL k n j hlt).symm, grown_trans (grown_trans (grown_trans (grown_trans hgr s0.2) s1.2) s2.2) s3.2⟩, by simp [intOf]; omega⟩
        congr 1
        omega
      · go_wp2
        go_ret
        have hjn : j = n := by omega
        subst hjn
        have e' := upto_full HU.out ho1.1 (length_marksL k j)
        rw [e'] at ho1
        exact ⟨rfl, ho1, hgr⟩

theorem marks_back {w : World} {base e : Nat} {v : Value} {n : Nat} {k : Int} (h : w.ownsRow base e 4 v n (legsC (marksL k n))) : LegsV w v (marksL k n) :=
  LegsV_of_owns (by rw [length_marksL]; exact h)

set_option maxHeartbeats 400000 in
theorem markContract_any (id : Int) (v : Value) (n : Nat) (cs : List Value) (base e : Nat) (k : Int) (w : World) (ho : w.ownsRow base e 4 v n cs) (hn : n ≤ 1048576) (hk0 : 0 ≤ k) (hk1 : k ≤ 1073741824) :
    Calls Try.prog 44 #[.agg #[.int .i64 id, v], .int .i64 k] w fun r w' => r = .returned (.int .i64 (k + 4 * n)) ∧ w'.ownsRow base e 4 v n (legsC (marksL k n)) ∧ w.grownBy w' v.ownBlock := by
  go_enter Try.func44, Try.ntmps44
  go_wp2_with fail
  refine (markLegS_any v n cs base e k _ (ho.alloc _) hn hk0 hk1).mono ?_
  rintro r w1 ⟨rfl, ho1, hg1⟩
  go_wp2
  go_ret
  exact ⟨rfl, ho1, grown_trans (World.grownBy_alloc _ _ _) hg1⟩

end Go.Proofs.Yteebglgbeijolaa
