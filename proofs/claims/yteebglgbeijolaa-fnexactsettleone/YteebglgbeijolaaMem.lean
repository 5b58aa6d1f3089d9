/-
  Legs in memory: what a slice of legs holds, and the contracts of the functions that only compare, count and copy them.
-/
import Derived.Test.YteebglgbeijolaaBase
import Derived.Deep.RegionHeld3
import Derived.Deep.DrawnRows
namespace Go.Proofs.Yteebglgbeijolaa
open Go.RowKit
set_option linter.unusedSectionVars false
variable [DecidableEq Leg] [Inhabited Leg]
attribute [local go_sem ↓] Go.wp_at_zero Go.wp_at_succ

def legCells (w : World) (b o : Nat) (l : Leg) : Prop :=
  w.cell? ⟨b, o, none⟩ = some (.int .i64 l.sh) ∧ w.cell? ⟨b, o + 1, none⟩ = some (.int .i64 l.ac) ∧ w.cell? ⟨b, o + 2, none⟩ = some (.int .i64 l.ast) ∧ w.cell? ⟨b, o + 3, none⟩ = some (.int .i64 l.am)

/-- Legs behind a slice's value. -/
def LegsV (w : World) (v : Value) (xs : List Leg) : Prop :=
  ∃ a cap, v = .slice a xs.length cap ∧ xs.length ≤ cap ∧ cap ≤ maxLen ∧ ∀ i, i < xs.length → ∃ b o, a = some ⟨b, o, none⟩ ∧ legCells w b (o + i * 4) (xs.getD i default)

theorem legCells_below {w w' : World} {b o : Nat} {l : Leg} (hb : Below w.heap.size w w') (h : legCells w b o l) : legCells w' b o l := by
  obtain ⟨h1, h2, h3, h4⟩ := h
  have hlt : b < w.heap.size := World.block_lt_of_cell? w _ h1
  exact ⟨(hb.cell (p := ⟨b, o, none⟩) hlt).trans h1, (hb.cell (p := ⟨b, o + 1, none⟩) hlt).trans h2, (hb.cell (p := ⟨b, o + 2, none⟩) hlt).trans h3, (hb.cell (p := ⟨b, o + 3, none⟩) hlt).trans h4⟩

theorem keep2 {w w' : World} {b o b' o' : Nat} {l l' : Leg} (hb : Below w.heap.size w w') (h : legCells w b o l) (h' : legCells w b' o' l') :
    Below w.heap.size w w' ∧ (w'.cell? ⟨b, o, none⟩ = some (.int .i64 l.sh) ∧ w'.cell? ⟨b, o + 1, none⟩ = some (.int .i64 l.ac) ∧ w'.cell? ⟨b, o + 2, none⟩ = some (.int .i64 l.ast) ∧ w'.cell? ⟨b, o + 3, none⟩ = some (.int .i64 l.am)) ∧
      (w'.cell? ⟨b', o', none⟩ = some (.int .i64 l'.sh) ∧ w'.cell? ⟨b', o' + 1, none⟩ = some (.int .i64 l'.ac) ∧ w'.cell? ⟨b', o' + 2, none⟩ = some (.int .i64 l'.ast) ∧ w'.cell? ⟨b', o' + 3, none⟩ = some (.int .i64 l'.am)) :=
  ⟨hb, legCells_below hb h, legCells_below hb h'⟩

theorem list_eq_of {xs ys : List Leg} (hl : ys.length = xs.length) (h : ∀ j, j < xs.length → xs.getD j default = ys.getD j default) : xs = ys := by
  apply List.ext_getElem (by omega)
  intro i h1 h2
  have := h i h1
  simpa [List.getD, h1, h2] using this

set_option maxHeartbeats 1000000 in
theorem eqLegS_any (x y : Value) (xs ys : List Leg) (w : World) (hx : LegsV w x xs) (hy : LegsV w y ys) :
    Calls Try.prog 97 #[x, y] w fun e w' => e = .returned (.bool (decide (xs = ys))) ∧ Below w.heap.size w w' := by
  obtain ⟨ax, cx, rfl, hcx, hmx, hx⟩ := hx
  obtain ⟨ay, cy, rfl, hcy, hmy, hy⟩ := hy
  unfold maxLen at hmx hmy
  by_cases hl : ys.length = xs.length
  · rw [hl] at hcy hy ⊢
    have HL : Hid (ys.length = xs.length) := hl
    clear hl
    generalize hn : xs.length = n at *
    have HN : Hid (xs.length = n) := hn
    clear hn
    go_enter Try.func97, Try.ntmps97
    go_wp2
    go_loopw [5] (fun i w' => ∃ k : Nat, k ≤ n ∧ i = .int .i64 k ∧ (∀ j, j < k → xs.getD j default = ys.getD j default) ∧ Below w.heap.size w w') (fun i _ => n - (intOf i).toNat)
    case atStart => exact ⟨0, Nat.zero_le _, rfl, fun j h => absurd h (Nat.not_lt_zero _), Below.refl _ _⟩
    case round =>
      obtain ⟨k, hk, rfl, hpre, hbl⟩ := hrel
      have HP : Hid (∀ j, j < k → xs.getD j default = ys.getD j default) := hpre
      clear hpre
      by_cases hlt : k < n
      · obtain ⟨bx, ox, rfl, h1⟩ := hx k hlt
        obtain ⟨b2, oy, rfl, h2⟩ := hy k hlt
        obtain ⟨l1, hl1⟩ : ∃ l, l = xs.getD k default := ⟨_, rfl⟩
        obtain ⟨l2, hl2⟩ : ∃ l, l = ys.getD k default := ⟨_, rfl⟩
        rw [← hl1] at h1
        rw [← hl2] at h2
        have H1 : Hid (l1 = xs.getD k default) := hl1
        have H2 : Hid (l2 = ys.getD k default) := hl2
        clear hl1 hl2 hx hy
        go_wp2
        go_region_held3 (fun w' => Below w.heap.size w w' ∧ (w'.cell? ⟨bx, ox + k * 4, none⟩ = some (.int .i64 l1.sh) ∧ w'.cell? ⟨bx, ox + k * 4 + 1, none⟩ = some (.int .i64 l1.ac) ∧ w'.cell? ⟨bx, ox + k * 4 + 2, none⟩ = some (.int .i64 l1.ast) ∧ w'.cell? ⟨bx, ox + k * 4 + 3, none⟩ = some (.int .i64 l1.am)) ∧ (w'.cell? ⟨b2, oy + k * 4, none⟩ = some (.int .i64 l2.sh) ∧ w'.cell? ⟨b2, oy + k * 4 + 1, none⟩ = some (.int .i64 l2.ac) ∧ w'.cell? ⟨b2, oy + k * 4 + 2, none⟩ = some (.int .i64 l2.ast) ∧ w'.cell? ⟨b2, oy + k * 4 + 3, none⟩ = some (.int .i64 l2.am))) ((refine keep2 ?_ h1 h2; repeat (first | exact Below.refl _ _ | assumption | refine Below.drew ?_ | refine balloc ?_ _ | refine bstep ?_ (by assumption)))) (first | (go_at_call 138; refine (eqLeg_any l1 l2 _).mono ?_; rintro e w' ⟨rfl, hb1⟩))
        rename_i hH
        have hB := hH.1
        clear hH
        go_wp2
        · rename_i hle
          go_ret
          refine ⟨?_, hB⟩
          have : ¬ xs = ys := fun h => by
            have : l1 = l2 := by rw [H1.out, H2.out, h]
            simp [this] at hle
          simp [this]
        · rename_i hle
          refine ⟨⟨k + 1, by omega, by go_num, fun j hj => ?_, hB⟩, by simp [intOf]; omega⟩
          by_cases hjk : j < k
          · exact HP.out j hjk
          · have : j = k := by omega
            subst this
            rw [← H1.out, ← H2.out]
            simpa using hle
      · go_wp2
        go_ret
        have : k = n := by omega
        subst this
        refine ⟨?_, hbl⟩
        have : xs = ys := list_eq_of (by rw [HL.out, HN.out]) (by rw [HN.out]; exact HP.out)
        simp [this]
  · go_enter Try.func97, Try.ntmps97
    have hl' : ((xs.length : Int) == (ys.length : Int)) = false := by simp; omega
    go_wp2
    go_ret
    have : ¬ xs = ys := fun h => hl (by rw [h])
    exact ⟨by simp [this], Below.refl _ _⟩

end Go.Proofs.Yteebglgbeijolaa
