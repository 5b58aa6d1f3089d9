import Derived.Test.YtjemciikdijokaaPrnOpenSessionLaw1

/-
  Contracts as values: the law's own copy, comparison and count of a contract.
-/
namespace Go.Proofs.Ytjemciikdijokaa
open Go.RowKit
set_option linter.unusedSectionVars false
variable [DecidableEq Leg] [Inhabited Leg]
attribute [local go_sem ↓] Go.wp_at_zero Go.wp_at_succ

theorem LegsV_below {w w' : World} {v : Value} {xs : List Leg} (h : LegsV w v xs) (hb : Below w.heap.size w w') : LegsV w' v xs := by
  obtain ⟨a, cap, rfl, h1, h2, h3⟩ := h
  exact ⟨a, cap, rfl, h1, h2, fun i hi => by
    obtain ⟨b, o, ha, hc⟩ := h3 i hi
    exact ⟨b, o, ha, legCells_below hb hc⟩⟩
end Go.Proofs.Ytjemciikdijokaa

/-
  Marks written into a row of legs that the law owns, and read back.
-/
namespace Go.Proofs.Ytjemciikdijokaa
open Go.RowKit
set_option linter.unusedSectionVars false
variable [DecidableEq Leg] [Inhabited Leg]
attribute [local go_sem ↓] Go.wp_at_zero Go.wp_at_succ

def markL (k : Int) (i : Nat) : Leg := ⟨k + 4 * i, k + 4 * i + 1, k + 4 * i + 1 + 1, k + 4 * i + 1 + 1 + 1⟩
def marksL (k : Int) (n : Nat) : List Leg := (List.range n).map (markL k)
theorem length_marksL (k : Int) (n : Nat) : (marksL k n).length = n := by simp [marksL]
theorem getD_marksL (k : Int) (n i : Nat) (h : i < n) : (marksL k n).getD i default = markL k i := by simp [marksL, List.getD, h]
theorem grown_refl (w : World) (r : Option Nat) : w.grownBy w r := ⟨rfl, rfl, rfl, Nat.le_refl _, fun _ _ _ => rfl⟩
theorem grown_trans {w w1 w2 : World} {r : Option Nat} (h : w.grownBy w1 r) (k : w1.grownBy w2 r) : w.grownBy w2 r :=
  ⟨k.os.trans h.os, k.tape.trans h.tape, k.output.trans h.output, Nat.le_trans h.size k.size, fun i hi hr => (k.block i (Nat.lt_of_lt_of_le hi h.size) hr).trans (h.block i hi hr)⟩
set_option maxHeartbeats 1000000 in
theorem markLegS_any (v : Value) (n : Nat) (cs : List Value) (base e : Nat) (k : Int) (w : World) (ho : w.ownsRow base e 4 v n cs) (hn : n ≤ 1048576) (hk0 : 0 ≤ k) (hk1 : k ≤ 1073741824) :
    Calls Try.prog 70 #[v, .int .i64 k] w fun r w' => r = .returned (.int .i64 (k + 4 * n)) ∧ w'.ownsRow base e 4 v n (legsC (marksL k n)) ∧ w.grownBy w' v.ownBlock := by
  rcases ho.2 with ⟨rfl, rfl⟩ | ⟨g, cap, cur, rfl, hb, hg, hnc, hcm, _, _⟩
  · go_enter Try.func70, Try.ntmps70
    go_wp2
    go_loopw [1, 5] (fun q i w' => q = .int .i64 k ∧ i = .int .i64 0 ∧ w' = w) (fun _ _ _ => 0)
    case atStart => exact ⟨rfl, rfl, rfl⟩
    case round =>
      obtain ⟨rfl, rfl, rfl⟩ := hrel
      go_wp2
      go_ret
      exact ⟨by simp, World.ownsRow_nil _ _ _ _, grown_refl _ _⟩
  · unfold maxLen at hcm
    go_enter Try.func70, Try.ntmps70
    go_wp2
    go_loopw [1, 5] (fun q i w' => ∃ (j : Nat) (cs' : List Value), j ≤ n ∧ i = .int .i64 j ∧ q = .int .i64 (k + 4 * j) ∧ w'.ownsRow base e 4 (.slice (some ⟨g, 0, none⟩) n cap) n cs' ∧ upto j cs' (marksL k n) ∧ w.grownBy w' (some g)) (fun _ i _ => n - (intOf i).toNat)
    case atStart => exact ⟨0, cs, Nat.zero_le _, rfl, by simp, ho, fun j h => by omega, grown_refl _ _⟩
    case round =>
      obtain ⟨j, cs', hj, rfl, rfl, ho1, hup, hgr⟩ := hrel
      have HU : Hid (upto j cs' (marksL k n)) := hup
      clear hup ho hg
      by_cases hlt : j < n
      · obtain ⟨u0, g0⟩ := owns_some ho1 (j * 4) (by omega)
        obtain ⟨u1, g1⟩ := owns_some ho1 (j * 4 + 1) (by omega)
        obtain ⟨u2, g2⟩ := owns_some ho1 (j * 4 + 2) (by omega)
        obtain ⟨u3, g3⟩ := owns_some ho1 (j * 4 + 3) (by omega)
        have hf := fun j => ho1.frozenAt j
        go_wp2
        have s0 := ho1.stored (j * 4) (.int .i64 (k + 4 * j))
        have s1 := s0.1.stored (j * 4 + 1) (.int .i64 (k + 4 * j + 1))
        have s2 := s1.1.stored (j * 4 + 2) (.int .i64 (k + 4 * j + 1 + 1))
        have s3 := s2.1.stored (j * 4 + 3) (.int .i64 (k + 4 * j + 1 + 1 + 1))
        refine ⟨⟨j + 1, _, by omega, by go_num, ?_, s3.1, upto_set (l := markL k j) HU.out (by rw [length_marksL]; exact hlt) (by rw [length_marksL]; exact ho1.1) (getD_marksL k n j hlt).symm, grown_trans (grown_trans (grown_trans (grown_trans hgr s0.2) s1.2) s2.2) s3.2⟩, by simp [intOf]; omega⟩
        congr 1
        omega
      · go_wp2
        go_ret
        have hjn : j = n := by omega
        subst hjn
        have e' := upto_full HU.out ho1.1 (length_marksL k j)
        rw [e'] at ho1
        exact ⟨rfl, ho1, hgr⟩
set_option maxHeartbeats 1000000 in
theorem heldLegS_any (v : Value) (n : Nat) (k : Int) (w : World) (hv : LegsV w v (marksL k n)) (hn : n ≤ 1048576) (hk0 : 0 ≤ k) (hk1 : k ≤ 1073741824) :
    Calls Try.prog 76 #[v, .int .i64 k] w fun r w' => r = .returned (.int .i64 (k + 4 * n)) ∧ w' = w := by
  obtain ⟨a, cap, rfl, hnc, hcm, hc⟩ := hv
  rw [length_marksL] at hnc hc ⊢
  unfold maxLen at hcm
  go_enter Try.func76, Try.ntmps76
  go_wp2
  go_loopw [1, 5] (fun q i w' => ∃ j : Nat, j ≤ n ∧ i = .int .i64 j ∧ q = .int .i64 (k + 4 * j) ∧ w' = w) (fun _ i _ => n - (intOf i).toNat)
  case atStart => exact ⟨0, Nat.zero_le _, rfl, by simp, rfl⟩
  case round =>
    obtain ⟨j, hj, rfl, rfl, rfl⟩ := hrel
    by_cases hlt : j < n
    · obtain ⟨b, o, rfl, h1⟩ := hc j hlt
      rw [getD_marksL k n j hlt] at h1
      obtain ⟨g0, g1, g2, g3⟩ := h1
      simp only [markL] at g0 g1 g2 g3
      clear hc
      go_wp2
      refine ⟨⟨j + 1, by omega, by go_num, ?_, trivial⟩, by simp [intOf]; omega⟩
      congr 1
      omega
    · go_wp2
      go_ret
      have hjn : j = n := by omega
      subst hjn
      exact ⟨rfl, rfl⟩
end Go.Proofs.Ytjemciikdijokaa

/-
  Rows of numbers: compared, marked and read back; and the answers that hold one.
-/
namespace Go.Proofs.Ytjemciikdijokaa
open Go.RowKit
set_option linter.unusedSectionVars false
variable [DecidableEq Leg] [Inhabited Leg]
attribute [local go_sem ↓] Go.wp_at_zero Go.wp_at_succ

def intsC (ys : List Int) : List Value := ys.map (Value.int .i64)
theorem infoInt : (Try.prog.info? 2).map (fun i => (i.zero, i.size, i.bytes)) = some (some (.int .i64 0), 1, 8) := by kernel_rfl
def IntsV (w : World) (v : Value) (ys : List Int) : Prop :=
  ∃ a cap, v = .slice a ys.length cap ∧ ys.length ≤ cap ∧ cap ≤ maxLen ∧ ∀ i, i < ys.length → ∃ b o, a = some ⟨b, o, none⟩ ∧ w.cell? ⟨b, o + i, none⟩ = some (.int .i64 (ys.getD i 0))
theorem IntsV_below {w w' : World} {v : Value} {ys : List Int} (h : IntsV w v ys) (hb : Below w.heap.size w w') : IntsV w' v ys := by
  obtain ⟨a, cap, rfl, h1, h2, h3⟩ := h
  exact ⟨a, cap, rfl, h1, h2, fun i hi => by
    obtain ⟨b, o, ha, hc⟩ := h3 i hi
    exact ⟨b, o, ha, cell_keep hb hc⟩⟩
theorem IntsV_of_owns {w : World} {base e : Nat} {v : Value} {ys : List Int} (h : w.ownsRow base e 1 v ys.length (intsC ys)) : IntsV w v ys := by
  rcases h.2 with ⟨rfl, hn⟩ | ⟨g, cap, cur, rfl, hb, hg, hnc, hcm, hcs, htake⟩
  · exact ⟨none, 0, by rw [hn], by omega, by unfold maxLen; omega, fun i hi => by omega⟩
  · refine ⟨some ⟨g, 0, none⟩, cap, rfl, hnc, hcm, fun i hi => ⟨g, 0, rfl, ?_⟩⟩
    rw [Nat.zero_add]
    refine (h.cellAt i (by omega)).trans ?_
    simp [intsC, List.getD, hi]
theorem ints_eq_of {xs ys : List Int} (hl : ys.length = xs.length) (h : ∀ j, j < xs.length → xs.getD j 0 = ys.getD j 0) : xs = ys := by
  apply List.ext_getElem (by omega)
  intro i h1 h2
  have := h i h1
  simpa [List.getD, h1, h2] using this
set_option maxHeartbeats 1000000 in
theorem eqInt64S_any (x y : Value) (xs ys : List Int) (w : World) (hx : IntsV w x xs) (hy : IntsV w y ys) :
    Calls Try.prog 43 #[x, y] w fun e w' => e = .returned (.bool (decide (xs = ys))) ∧ Below w.heap.size w w' := by
  obtain ⟨ax, cx, rfl, hcx, hmx, hx⟩ := hx
  obtain ⟨ay, cy, rfl, hcy, hmy, hy⟩ := hy
  unfold maxLen at hmx hmy
  by_cases hl : ys.length = xs.length
  · rw [hl] at hcy hy ⊢
    have HL : Hid (ys.length = xs.length) := hl
    clear hl
    generalize hn : xs.length = n at *
    have HN : Hid (xs.length = n) := hn
    clear hn
    go_enter Try.func43, Try.ntmps43
    go_wp2
    go_loopw [5] (fun i w' => ∃ k : Nat, k ≤ n ∧ i = .int .i64 k ∧ (∀ j, j < k → xs.getD j 0 = ys.getD j 0) ∧ Below w.heap.size w w') (fun i _ => n - (intOf i).toNat)
    case atStart => exact ⟨0, Nat.zero_le _, rfl, fun j h => absurd h (Nat.not_lt_zero _), Below.refl _ _⟩
    case round =>
      obtain ⟨k, hk, rfl, hpre, hbl⟩ := hrel
      have HP : Hid (∀ j, j < k → xs.getD j 0 = ys.getD j 0) := hpre
      clear hpre
      by_cases hlt : k < n
      · obtain ⟨bx, ox, rfl, h1⟩ := hx k hlt
        obtain ⟨b2, oy, rfl, h2⟩ := hy k hlt
        obtain ⟨l1, hl1⟩ : ∃ l, l = xs.getD k 0 := ⟨_, rfl⟩
        obtain ⟨l2, hl2⟩ : ∃ l, l = ys.getD k 0 := ⟨_, rfl⟩
        rw [← hl1] at h1
        rw [← hl2] at h2
        have H1 : Hid (l1 = xs.getD k 0) := hl1
        have H2 : Hid (l2 = ys.getD k 0) := hl2
        clear hl1 hl2 hx hy
        go_wp2
        go_region_held3 (fun w' => Below w.heap.size w w' ∧ w'.cell? ⟨bx, ox + k, none⟩ = some (.int .i64 l1) ∧ w'.cell? ⟨b2, oy + k, none⟩ = some (.int .i64 l2)) ((refine keepC2 ?_ h1 h2; repeat (first | exact Below.refl _ _ | assumption | refine Below.drew ?_ | refine balloc ?_ _ | refine bstep ?_ (by assumption)))) (fail)
        rename_i hH
        have hB := hH.1
        clear hH
        go_wp2
        · rename_i hle
          go_ret
          refine ⟨?_, hB⟩
          have : ¬ xs = ys := fun h => by
            have : l1 = l2 := by rw [H1.out, H2.out, h]
            simp [this] at hle
          simp [this]
        · rename_i hle
          refine ⟨⟨k + 1, by omega, by go_num, fun j hj => ?_, hB⟩, by simp [intOf]; omega⟩
          by_cases hjk : j < k
          · exact HP.out j hjk
          · have : j = k := by omega
            subst this
            rw [← H1.out, ← H2.out]
            simpa using hle
      · go_wp2
        go_ret
        have : k = n := by omega
        subst this
        refine ⟨?_, hbl⟩
        have : xs = ys := ints_eq_of (by rw [HL.out, HN.out]) (by rw [HN.out]; exact HP.out)
        simp [this]
  · go_enter Try.func43, Try.ntmps43
    have hl' : ((xs.length : Int) == (ys.length : Int)) = false := by simp; omega
    go_wp2
    go_ret
    have : ¬ xs = ys := fun h => hl (by rw [h])
    exact ⟨by simp [this], Below.refl _ _⟩
def marksI (k : Int) (n : Nat) : List Int := (List.range n).map (fun i : Nat => k + (i : Int))
theorem length_marksI (k : Int) (n : Nat) : (marksI k n).length = n := by simp [marksI]
theorem getD_marksI (k : Int) (n i : Nat) (h : i < n) : (marksI k n).getD i 0 = k + i := by simp [marksI, List.getD, h]
def uptoI (k : Nat) (cs : List Value) (ys : List Int) : Prop := ∀ j, j < k → cs[j]? = (intsC ys)[j]?
theorem uptoI_full {n : Nat} {cs : List Value} {ys : List Int} (h : uptoI n cs ys) (hl : cs.length = n * 1) (hn : ys.length = n) : cs = intsC ys := by
  apply List.ext_getElem?
  intro j
  by_cases hj : j < n
  · exact h j hj
  · rw [List.getElem?_eq_none (by omega), List.getElem?_eq_none (by simp [intsC]; omega)]
theorem uptoI_set {k : Nat} {cs : List Value} {ys : List Int} {l : Int} (h : uptoI k cs ys) (hk : k < ys.length) (hl : cs.length = ys.length * 1) (he : l = ys.getD k 0) : uptoI (k + 1) (cs.set k (.int .i64 l)) ys := by
  intro j hj
  rw [List.getElem?_set]
  by_cases e : k = j
  · subst e
    rw [if_pos rfl, if_pos (by omega)]
    simp [intsC, he, List.getD, hk]
  · rw [if_neg e]
    exact h j (by omega)
set_option maxHeartbeats 1000000 in
theorem markInt64S_any (v : Value) (n : Nat) (cs : List Value) (base e : Nat) (k : Int) (w : World) (ho : w.ownsRow base e 1 v n cs) (hn : n ≤ 1048576) (hk0 : 0 ≤ k) (hk1 : k ≤ 1073741824) :
    Calls Try.prog 36 #[v, .int .i64 k] w fun r w' => r = .returned (.int .i64 (k + n)) ∧ w'.ownsRow base e 1 v n (intsC (marksI k n)) ∧ w.grownBy w' v.ownBlock := by
  rcases ho.2 with ⟨rfl, rfl⟩ | ⟨g, cap, cur, rfl, hb, hg, hnc, hcm, _, _⟩
  · go_enter Try.func36, Try.ntmps36
    go_wp2
    go_loopw [1, 5] (fun q i w' => q = .int .i64 k ∧ i = .int .i64 0 ∧ w' = w) (fun _ _ _ => 0)
    case atStart => exact ⟨rfl, rfl, rfl⟩
    case round =>
      obtain ⟨rfl, rfl, rfl⟩ := hrel
      go_wp2
      go_ret
      exact ⟨by simp, World.ownsRow_nil _ _ _ _, grown_refl _ _⟩
  · unfold maxLen at hcm
    go_enter Try.func36, Try.ntmps36
    go_wp2
    go_loopw [1, 5] (fun q i w' => ∃ (j : Nat) (cs' : List Value), j ≤ n ∧ i = .int .i64 j ∧ q = .int .i64 (k + j) ∧ w'.ownsRow base e 1 (.slice (some ⟨g, 0, none⟩) n cap) n cs' ∧ uptoI j cs' (marksI k n) ∧ w.grownBy w' (some g)) (fun _ i _ => n - (intOf i).toNat)
    case atStart => exact ⟨0, cs, Nat.zero_le _, rfl, by simp, ho, fun j h => by omega, grown_refl _ _⟩
    case round =>
      obtain ⟨j, cs', hj, rfl, rfl, ho1, hup, hgr⟩ := hrel
      have HU : Hid (uptoI j cs' (marksI k n)) := hup
      clear hup ho hg
      by_cases hlt : j < n
      · obtain ⟨u0, g0⟩ := owns_some ho1 j (by omega)
        have hf := fun j => ho1.frozenAt j
        go_wp2
        have s0 := ho1.stored j (.int .i64 (k + j))
        refine ⟨⟨j + 1, _, by omega, by go_num, ?_, s0.1, uptoI_set HU.out (by rw [length_marksI]; exact hlt) (by rw [length_marksI]; exact ho1.1) (getD_marksI k n j hlt).symm, grown_trans hgr s0.2⟩, by simp [intOf]; omega⟩
        congr 1
        omega
      · go_wp2
        go_ret
        have hjn : j = n := by omega
        subst hjn
        have e' := uptoI_full HU.out ho1.1 (length_marksI k j)
        rw [e'] at ho1
        exact ⟨rfl, ho1, hgr⟩
set_option maxHeartbeats 1000000 in
theorem heldInt64S_any (v : Value) (n : Nat) (k : Int) (w : World) (hv : IntsV w v (marksI k n)) (hn : n ≤ 1048576) (hk0 : 0 ≤ k) (hk1 : k ≤ 1073741824) :
    Calls Try.prog 57 #[v, .int .i64 k] w fun r w' => r = .returned (.int .i64 (k + n)) ∧ w' = w := by
  obtain ⟨a, cap, rfl, hnc, hcm, hc⟩ := hv
  rw [length_marksI] at hnc hc ⊢
  unfold maxLen at hcm
  go_enter Try.func57, Try.ntmps57
  go_wp2
  go_loopw [1, 5] (fun q i w' => ∃ j : Nat, j ≤ n ∧ i = .int .i64 j ∧ q = .int .i64 (k + j) ∧ w' = w) (fun _ i _ => n - (intOf i).toNat)
  case atStart => exact ⟨0, Nat.zero_le _, rfl, by simp, rfl⟩
  case round =>
    obtain ⟨j, hj, rfl, rfl, rfl⟩ := hrel
    by_cases hlt : j < n
    · obtain ⟨b, o, rfl, h1⟩ := hc j hlt
      rw [getD_marksI k n j hlt] at h1
      clear hc
      go_wp2
      refine ⟨⟨j + 1, by omega, by go_num, ?_, trivial⟩, by simp [intOf]; omega⟩
      congr 1
      omega
    · go_wp2
      go_ret
      have hjn : j = n := by omega
      subst hjn
      exact ⟨rfl, rfl⟩
set_option maxHeartbeats 1000000 in
theorem toInt64S_any (x : Value) (xs : List Int) (w : World) (hx : IntsV w x xs) (hn : xs.length ≤ 1048576) :
    Calls Try.prog 41 #[x] w fun e w' => ∃ v, e = .returned v ∧ w'.ownsRow w.heap.size 2 1 v xs.length (intsC xs) ∧ Below w.heap.size w w' := by
  obtain ⟨ax, cx, rfl, hcx, hmx, hx⟩ := hx
  unfold maxLen at hmx
  obtain ⟨i0, hi, hz0, hz1, hz2⟩ := info_parts infoInt
  obtain ⟨w1, hmk, hown, hgr⟩ := run_make_full (P := Try.prog) w w.heap.size 49 2 i0 _ 1 Try.underlying49 hi hz0 hz1 .i64 .i64 xs.length (by rw [hz2]; omega) (by unfold maxLen; omega) (Nat.le_refl _)
  have hbl0 : Below w.heap.size w w1 := (Below.refl _ _).grown hgr (Nat.le_refl _) (fun k h => by cases h)
  generalize hn' : xs.length = n at *
  have HN : Hid (xs.length = n) := hn'
  clear hn'
  go_enter Try.func41, Try.ntmps41
  go_wp2
  go_loopw [4] (fun i w' => ∃ (k : Nat) (cs : List Value), k ≤ n ∧ i = .int .i64 k ∧ w'.ownsRow w.heap.size 2 1 (.slice (some ⟨w.heap.size, 0, none⟩) n n) n cs ∧ Hid (∀ j, j < k → cs[j]? = (intsC xs)[j]?) ∧ Below w.heap.size w w') (fun i _ => n - (intOf i).toNat)
  case atStart => exact ⟨0, _, Nat.zero_le _, rfl, hown, fun j h => by omega, hbl0⟩
  case round =>
    obtain ⟨k, cs, hk, rfl, ho, HU, hbl⟩ := hrel
    clear hown hmk hgr hbl0
    by_cases hlt : k < n
    · obtain ⟨bx, ox, rfl, h1⟩ := hx k hlt
      obtain ⟨l, hl⟩ : ∃ l, l = xs.getD k 0 := ⟨_, rfl⟩
      rw [← hl] at h1
      have H1 : Hid (l = xs.getD k 0) := hl
      clear hl hx
      have a0 := cell_keep hbl h1
      obtain ⟨u0, g0⟩ := owns_some ho k (by omega)
      have hf := fun j => ho.frozenAt j
      go_wp2
      have s0 := ho.stored k (.int .i64 l)
      refine ⟨⟨k + 1, _, by omega, by go_num, s0.1, fun j hj => ?_, hbl.setCell (Nat.le_refl _) _⟩, by simp [intOf]; omega⟩
      rw [List.getElem?_set]
      split
      · rename_i e
        subst e
        have hl1 := ho.1
        have hl2 := HN.out
        rw [if_pos (by omega), H1.out]
        simp [intsC, List.getD, show k < xs.length by omega]
      · exact HU.out j (by omega)
    · go_wp2
      go_ret
      have hkn : k = n := by omega
      subst hkn
      have e : cs = intsC xs := List.ext_getElem? (fun j => by
        by_cases hj : j < k
        · exact HU.out j hj
        · have h1 := ho.1
          have h2 := HN.out
          rw [List.getElem?_eq_none (by omega), List.getElem?_eq_none (by simp [intsC]; omega)])
      subst e
      exact ⟨_, rfl, ho, hbl⟩
theorem szInt64S_any (x : Value) (xs : List Int) (left : Int) (w : World) (hx : IntsV w x xs) (h0 : 0 ≤ left) (h1 : left ≤ 1048576) :
    Calls Try.prog 40 #[x, .int .i64 left] w fun e w' => e = .returned (.int .i64 (szLen left xs.length)) ∧ w' = w := by
  obtain ⟨ax, cx, rfl, hcx, hmx, hx⟩ := hx
  unfold maxLen at hmx
  generalize xs.length = n at *
  clear hx
  by_cases h : left < n
  · have h' : left - (n : Int) < 0 := by omega
    go_enter Try.func40, Try.ntmps40
    go_wp2
    go_ret
    exact ⟨by simp only [szLen, if_pos h]; rfl, rfl⟩
  · have h' : ¬ left - (n : Int) < 0 := by omega
    go_enter Try.func40, Try.ntmps40
    go_wp2
    go_ret
    exact ⟨by rw [szLen, if_neg (by omega)]; rfl, rfl⟩
end Go.Proofs.Ytjemciikdijokaa

/-
  Values that own their memory, however deep: footprints (which blocks), what changes only these, rows of such values.
-/
namespace Go.Proofs.Ytjemciikdijokaa
open Go.RowKit

structure Mod (F : Nat → Prop) (w w' : World) : Prop where
  os : w'.os = w.os
  tape : w'.tape = w.tape
  output : w'.output = w.output
  size : w.heap.size ≤ w'.heap.size
  block : ∀ k, k < w.heap.size → ¬ F k → w'.heap[k]? = w.heap[k]?
theorem Mod.refl (F : Nat → Prop) (w : World) : Mod F w w := ⟨rfl, rfl, rfl, Nat.le_refl _, fun _ _ _ => rfl⟩
theorem Mod.trans {F : Nat → Prop} {w w1 w2 : World} (h : Mod F w w1) (k : Mod F w1 w2) : Mod F w w2 :=
  ⟨k.os.trans h.os, k.tape.trans h.tape, k.output.trans h.output, Nat.le_trans h.size k.size, fun i hi hn => (k.block i (Nat.lt_of_lt_of_le hi h.size) hn).trans (h.block i hi hn)⟩
theorem Mod.mono {F G : Nat → Prop} {w w' : World} (h : Mod F w w') (hs : ∀ b, F b → G b) : Mod G w w' :=
  ⟨h.os, h.tape, h.output, h.size, fun i hi hn => h.block i hi (fun hf => hn (hs i hf))⟩
theorem Mod.of_grown {w w' : World} {row : Option Nat} (h : w.grownBy w' row) : Mod (fun b => row = some b) w w' :=
  ⟨h.os, h.tape, h.output, h.size, fun i hi hn => h.block i hi (fun e => hn e.symm)⟩
theorem Mod.of_below {F : Nat → Prop} {w w' : World} (h : Below w.heap.size w w') : Mod F w w' :=
  ⟨h.os, h.tape, h.output, h.size, fun i hi _ => h.block i hi⟩
theorem Mod.alloc {F : Nat → Prop} {w w' : World} (h : Mod F w w') (o : Obj) : Mod F w (w'.alloc o) :=
  h.trans (Mod.of_below ((Below.refl _ _).alloc (Nat.le_refl _) o))
theorem Mod.below {F : Nat → Prop} {w0 w w' : World} {B : Nat} (hb : Below B w0 w) (h : Mod F w w') (hs : B ≤ w.heap.size) (hF : ∀ b, F b → B ≤ b) : Below B w0 w' :=
  ⟨h.os.trans hb.os, h.tape.trans hb.tape, h.output.trans hb.output, Nat.le_trans hb.size h.size, fun k hk => (h.block k (Nat.lt_of_lt_of_le hk hs) (fun hf => by have := hF k hf; omega)).trans (hb.block k hk)⟩
theorem Mod.cell {F : Nat → Prop} {w w' : World} (h : Mod F w w') {a : Addr} {v : Value} (hc : w.cell? a = some v) (hn : ¬ F a.block) : w'.cell? a = some v :=
  (World.cell?_of_block (w := w) (h.block a.block (World.block_lt_of_cell? w a hc) hn)).trans hc
theorem Mod.owns {F : Nat → Prop} {w w' : World} {base e size : Nat} {v : Value} {n : Nat} {xs : List Value} (h : Mod F w w') (ho : w.ownsRow base e size v n xs) (hn : ∀ b, v.ownBlock = some b → ¬ F b) : w'.ownsRow base e size v n xs := by
  refine ⟨ho.1, ?_⟩
  rcases ho.2 with h2 | ⟨g, cap, cur, rfl, hg, hh, r⟩
  · exact .inl h2
  · refine .inr ⟨g, cap, cur, rfl, hg, ?_, r⟩
    have hlt : g < w.heap.size := by
      rcases Nat.lt_or_ge g w.heap.size with h | h
      · exact h
      · rw [Array.getElem?_eq_none h] at hh; cases hh
    exact (h.block g hlt (hn g rfl)).trans hh
structure Rep (α : Type) where
  V : World → Value → α → Prop
  O : World → Nat → (Nat → Prop) → Value → α → Prop
  below : ∀ {w w' v x}, V w v x → Below w.heap.size w w' → V w' v x
  ofO : ∀ {w base F v x}, O w base F v x → V w v x
  mod : ∀ {w w' base F G v x}, O w base F v x → Mod G w w' → (∀ b, F b → ¬ G b) → O w' base F v x
  rng : ∀ {w base F v x}, O w base F v x → ∀ b, F b → base ≤ b ∧ b < w.heap.size
  base : ∀ {w base base' F v x}, O w base F v x → base' ≤ base → O w base' F v x
theorem Rep.keep {α : Type} (R : Rep α) {w w' : World} {base : Nat} {F : Nat → Prop} {v : Value} {x : α} (h : R.O w base F v x) (hb : Below w.heap.size w w') : R.O w' base F v x :=
  R.mod (G := fun _ => False) h (Mod.of_below hb) (fun _ _ h => h)
theorem Rep.keep2 {α : Type} (R : Rep α) {w Y w' : World} {base : Nat} {F : Nat → Prop} {v : Value} {x : α} (h : R.O w base F v x) (h1 : Below w.heap.size w Y) (h2 : Below Y.heap.size Y w') : R.O w' base F v x := R.keep (R.keep h h1) h2
def fRep {α : Type} (e size : Nat) (C : List α → List Value) (V : World → Value → List α → Prop)
    (hb : ∀ {w w' v xs}, V w v xs → Below w.heap.size w w' → V w' v xs) (ho : ∀ {w base v xs}, w.ownsRow base e size v xs.length (C xs) → V w v xs) : Rep (List α) where
  V := V
  O := fun w base F v xs => w.ownsRow base e size v xs.length (C xs) ∧ F = (fun b => v.ownBlock = some b)
  below := hb
  ofO := fun h => ho h.1
  mod := fun h hm hd => ⟨hm.owns h.1 (fun b hb => hd b (by rw [h.2]; exact hb)), h.2⟩
  rng := fun h b hb => by rw [h.2] at hb; exact h.1.lt b hb
  base := fun h hb => ⟨owns_base h.1 hb, h.2⟩
structure PO {α : Type} (R : Rep α) (e size : Nat) (lv : Value → List Value) (w : World) (base : Nat) (v : Value) (n k : Nat) (d : Nat → α) (cs : List Value) (us : Nat → Value) (fs : Nat → Nat → Prop) : Prop where
  row : w.ownsRow base e size v n cs
  el : ∀ i, i < k → R.O w base (fs i) (us i) (d i)
  ln : ∀ i, i < k → (lv (us i)).length = size
  cell : ∀ i, i < k → ∀ j, j < size → cs[i * size + j]? = (lv (us i))[j]?
  out : ∀ i, i < k → ∀ b, fs i b → v.ownBlock ≠ some b
  sep : ∀ i j, i < k → j < k → i ≠ j → ∀ b, fs i b → ¬ fs j b
theorem PO.mod {α : Type} {R : Rep α} {e size : Nat} {lv : Value → List Value} {w w' : World} {base : Nat} {v : Value} {n k : Nat} {d : Nat → α} {cs : List Value} {us : Nat → Value} {fs : Nat → Nat → Prop} {G : Nat → Prop}
    (h : PO R e size lv w base v n k d cs us fs) (hm : Mod G w w') (h1 : ∀ b, v.ownBlock = some b → ¬ G b) (h2 : ∀ i, i < k → ∀ b, fs i b → ¬ G b) : PO R e size lv w' base v n k d cs us fs :=
  ⟨hm.owns h.row h1, fun i hi => R.mod (h.el i hi) hm (h2 i hi), h.ln, h.cell, h.out, h.sep⟩
theorem PO.keep {α : Type} {R : Rep α} {e size : Nat} {lv : Value → List Value} {w w' : World} {base : Nat} {v : Value} {n k : Nat} {d : Nat → α} {cs : List Value} {us : Nat → Value} {fs : Nat → Nat → Prop}
    (h : PO R e size lv w base v n k d cs us fs) (hb : Below w.heap.size w w') : PO R e size lv w' base v n k d cs us fs :=
  h.mod (G := fun _ => False) (Mod.of_below hb) (fun _ _ h => h) (fun _ _ _ _ h => h)
theorem PO.cast {α : Type} {R : Rep α} {e size : Nat} {lv : Value → List Value} {w : World} {base : Nat} {v : Value} {n k : Nat} {d d' : Nat → α} {cs : List Value} {us : Nat → Value} {fs : Nat → Nat → Prop}
    (h : PO R e size lv w base v n k d cs us fs) (hd : ∀ i, i < k → d' i = d i) : PO R e size lv w base v n k d' cs us fs :=
  ⟨h.row, fun i hi => by rw [hd i hi]; exact h.el i hi, h.ln, h.cell, h.out, h.sep⟩
def upd {β : Type} (f : Nat → β) (k : Nat) (x : β) : Nat → β := fun i => if i = k then x else f i
theorem upd_at {β : Type} (f : Nat → β) (k : Nat) (x : β) : upd f k x k = x := by simp [upd]
theorem upd_ne {β : Type} (f : Nat → β) {k i : Nat} (x : β) (h : i ≠ k) : upd f k x i = f i := by simp [upd, h]
theorem PO.push {α : Type} {R : Rep α} {e size : Nat} {lv : Value → List Value} {w w1 w2 : World} {base : Nat} {v : Value} {n k : Nat} {d : Nat → α} {cs cs' : List Value} {us : Nat → Value} {fs : Nat → Nat → Prop} {u : Value} {F : Nat → Prop}
    (h : PO R e size lv w base v n k d cs us fs) (hbs : base ≤ w.heap.size) (hb : Below w.heap.size w w1) (hu : R.O w1 w.heap.size F u (d k)) (hl : (lv u).length = size)
    (hr : w2.ownsRow base e size v n cs') (hm : Mod (fun b => v.ownBlock = some b) w1 w2)
    (hold : ∀ i, i < k → ∀ j, j < size → cs'[i * size + j]? = cs[i * size + j]?) (hnew : ∀ j, j < size → cs'[k * size + j]? = (lv u)[j]?) :
    PO R e size lv w2 base v n (k + 1) d cs' (upd us k u) (upd fs k F) := by
  have hlt : ∀ b, v.ownBlock = some b → b < w.heap.size := fun b hb => (h.row.lt b hb).2
  have hF : ∀ b, F b → w.heap.size ≤ b := fun b hb => (R.rng hu b hb).1
  have hfs : ∀ i, i < k → ∀ b, fs i b → b < w.heap.size := fun i hi b hb => (R.rng (h.el i hi) b hb).2
  refine ⟨hr, ?_, ?_, ?_, ?_, ?_⟩
  · intro i hi
    by_cases hik : i = k
    · subst hik
      rw [upd_at, upd_at]
      exact R.base (R.mod hu hm (fun b hb he => by have := hlt b he; have := hF b hb; omega)) hbs
    · rw [upd_ne _ _ hik, upd_ne _ _ hik]
      exact R.mod (R.keep (h.el i (by omega)) hb) hm (fun b hb => h.out i (by omega) b hb)
  · intro i hi
    by_cases hik : i = k
    · subst hik; rw [upd_at]; exact hl
    · rw [upd_ne _ _ hik]; exact h.ln i (by omega)
  · intro i hi j hj
    by_cases hik : i = k
    · subst hik; rw [upd_at]; exact hnew j hj
    · rw [upd_ne _ _ hik, hold i (by omega) j hj]; exact h.cell i (by omega) j hj
  · intro i hi b hb he
    by_cases hik : i = k
    · subst hik
      rw [upd_at] at hb
      have := hlt b he; have := hF b hb; omega
    · rw [upd_ne _ _ hik] at hb
      exact h.out i (by omega) b hb he
  · intro i j hi hj hij b h1 h2
    by_cases hik : i = k
    · subst hik
      rw [upd_at] at h1
      rw [upd_ne _ _ (Ne.symm hij)] at h2
      have := hF b h1; have := hfs j (by omega) b h2; omega
    · rw [upd_ne _ _ hik] at h1
      by_cases hjk : j = k
      · subst hjk
        rw [upd_at] at h2
        have := hF b h2; have := hfs i (by omega) b h1; omega
      · rw [upd_ne _ _ hjk] at h2
        exact h.sep i j (by omega) (by omega) hij b h1 h2
theorem PO.turn {α : Type} {R : Rep α} {e size : Nat} {lv : Value → List Value} {w w' : World} {base : Nat} {v : Value} {n k j : Nat} {d : Nat → α} {cs cs' : List Value} {us : Nat → Value} {fs : Nat → Nat → Prop} {u : Value} {x : α}
    (h : PO R e size lv w base v n k d cs us fs) (hj : j < k) (hm : Mod (fun b => v.ownBlock = some b ∨ fs j b) w w') (hu : R.O w' base (fs j) u x) (hl : (lv u).length = size)
    (hr : w'.ownsRow base e size v n cs') (hold : ∀ i, i < k → i ≠ j → ∀ o, o < size → cs'[i * size + o]? = cs[i * size + o]?) (hnew : ∀ o, o < size → cs'[j * size + o]? = (lv u)[o]?) :
    PO R e size lv w' base v n k (upd d j x) cs' (upd us j u) fs := by
  refine ⟨hr, ?_, ?_, ?_, h.out, h.sep⟩
  · intro i hi
    by_cases hik : i = j
    · subst hik; rw [upd_at, upd_at]; exact hu
    · rw [upd_ne _ _ hik, upd_ne _ _ hik]
      exact R.mod (h.el i hi) hm (fun b hb => by
        rintro (he | he)
        · exact h.out i hi b hb he
        · exact h.sep i j hi hj hik b hb he)
  · intro i hi
    by_cases hik : i = j
    · subst hik; rw [upd_at]; exact hl
    · rw [upd_ne _ _ hik]; exact h.ln i hi
  · intro i hi o ho
    by_cases hik : i = j
    · subst hik; rw [upd_at]; exact hnew o ho
    · rw [upd_ne _ _ hik, hold i hi hik o ho]; exact h.cell i hi o ho
def NV {α : Type} [Inhabited α] (R : Rep α) (size : Nat) (lv : Value → List Value) (w : World) (v : Value) (xs : List α) : Prop :=
  ∃ a cap, v = .slice a xs.length cap ∧ xs.length ≤ cap ∧ cap ≤ maxLen ∧ ∀ i, i < xs.length → ∃ b o u, a = some ⟨b, o, none⟩ ∧ (lv u).length = size ∧ (∀ j, j < size → w.cell? ⟨b, o + i * size + j, none⟩ = (lv u)[j]?) ∧ R.V w u (xs.getD i default)
def NO {α : Type} [Inhabited α] (R : Rep α) (e size : Nat) (lv : Value → List Value) (w : World) (base : Nat) (F : Nat → Prop) (v : Value) (xs : List α) : Prop :=
  ∃ cs us fs, PO R e size lv w base v xs.length xs.length (fun i => xs.getD i default) cs us fs ∧ ∀ b, F b ↔ (v.ownBlock = some b ∨ ∃ i, i < xs.length ∧ fs i b)
theorem NV_below {α : Type} [Inhabited α] {R : Rep α} {size : Nat} {lv : Value → List Value} {w w' : World} {v : Value} {xs : List α} (h : NV R size lv w v xs) (hb : Below w.heap.size w w') : NV R size lv w' v xs := by
  obtain ⟨a, cap, rfl, h1, h2, h3⟩ := h
  refine ⟨a, cap, rfl, h1, h2, fun i hi => ?_⟩
  obtain ⟨b, o, u, ha, hl, hc, hv⟩ := h3 i hi
  refine ⟨b, o, u, ha, hl, fun j hj => ?_, R.below hv hb⟩
  have hs : (lv u)[j]? = some ((lv u)[j]'(by omega)) := List.getElem?_eq_getElem _
  rw [hs]
  exact cell_keep hb ((hc j hj).trans hs)
theorem NV_of {α : Type} [Inhabited α] {R : Rep α} {e size : Nat} {lv : Value → List Value} {w : World} {base : Nat} {F : Nat → Prop} {v : Value} {xs : List α} (h : NO R e size lv w base F v xs) : NV R size lv w v xs := by
  obtain ⟨cs, us, fs, hp, _⟩ := h
  have hr := hp.row
  rcases hr.2 with ⟨rfl, hn⟩ | ⟨g, cap, cur, rfl, hb, hg, hnc, hcm, hcs, htake⟩
  · exact ⟨none, 0, by rw [hn], by omega, by unfold maxLen; omega, fun i hi => by omega⟩
  · refine ⟨some ⟨g, 0, none⟩, cap, rfl, hnc, hcm, fun i hi => ⟨g, 0, us i, rfl, hp.ln i hi, fun j hj => ?_, R.ofO (hp.el i hi)⟩⟩
    rw [Nat.zero_add, ← hp.cell i hi j hj]
    exact hr.cellAt _ (by
      have : i * size + size ≤ xs.length * size := by rw [← Nat.succ_mul]; exact Nat.mul_le_mul_right _ hi
      omega)
def nRep {α : Type} [Inhabited α] (R : Rep α) (e size : Nat) (lv : Value → List Value) : Rep (List α) where
  V := NV R size lv
  O := NO R e size lv
  below := NV_below
  ofO := NV_of
  mod := fun h hm hd => by
    obtain ⟨cs, us, fs, hp, hF⟩ := h
    exact ⟨cs, us, fs, hp.mod hm (fun b hb => hd b ((hF b).2 (.inl hb))) (fun i hi b hb => hd b ((hF b).2 (.inr ⟨i, hi, hb⟩))), hF⟩
  rng := fun h b hb => by
    obtain ⟨cs, us, fs, hp, hF⟩ := h
    rcases (hF b).1 hb with hb | ⟨i, hi, hb⟩
    · exact hp.row.lt b hb
    · exact R.rng (hp.el i hi) b hb
  base := fun h hb => by
    obtain ⟨cs, us, fs, hp, hF⟩ := h
    exact ⟨cs, us, fs, ⟨owns_base hp.row hb, fun i hi => R.base (hp.el i hi) hb, hp.ln, hp.cell, hp.out, hp.sep⟩, hF⟩
def one (v : Value) : List Value := [v]
theorem Mod.of_set (w : World) (p : Addr) (u : Value) : Mod (fun b => b = p.block) w (w.setCell p u) :=
  ⟨rfl, rfl, rfl, by simp, fun k _ hn => Below.heap_setCell w p u k hn⟩
theorem Rep.set {α : Type} (R : Rep α) {w : World} {base : Nat} {F : Nat → Prop} {v : Value} {x : α} (h : R.O w base F v x) {p : Addr} (u : Value) (hp : p.block < base) : R.O (w.setCell p u) base F v x :=
  R.mod h (Mod.of_set w p u) (fun b hb e => by have := (R.rng h b hb).1; omega)
theorem Rep.alloc {α : Type} (R : Rep α) {w : World} {base : Nat} {F : Nat → Prop} {v : Value} {x : α} (h : R.O w base F v x) (o : Obj) : R.O (w.alloc o) base F v x :=
  R.keep h (balloc (Below.refl _ _) o)
def cntTo {α : Type} (f : α → Nat) : Nat → List α → Nat
  | 0, _ => 0
  | _, [] => 0
  | k + 1, x :: xs => f x + cntTo f k xs
theorem cntTo_succ {α : Type} [Inhabited α] (f : α → Nat) : ∀ (k : Nat) (xs : List α), k < xs.length → cntTo f (k + 1) xs = cntTo f k xs + f (xs.getD k default)
  | 0, x :: xs, _ => by cases xs <;> simp [cntTo]
  | k + 1, x :: xs, h => by
    have := cntTo_succ f k xs (by simpa using h)
    simp only [cntTo, List.getD_cons_succ]
    omega
theorem cntTo_le {α : Type} (f : α → Nat) : ∀ (k n : Nat) (xs : List α), k ≤ n → cntTo f k xs ≤ cntTo f n xs
  | 0, _, _, _ => by simp [cntTo]
  | k + 1, 0, _, h => by omega
  | k + 1, n + 1, [], _ => by simp [cntTo]
  | k + 1, n + 1, x :: xs, h => by
    have := cntTo_le f k n xs (by omega)
    simp only [cntTo]
    omega
def wtL {α : Type} (f : α → Nat) (xs : List α) : Nat := xs.length + cntTo f xs.length xs
def cntL {α : Type} (f : α → Nat) (xs : List α) : Nat := cntTo f xs.length xs
theorem cntTo_getD {α : Type} [Inhabited α] (f : α → Nat) {k : Nat} {xs : List α} (h : k < xs.length) : cntTo f k xs + f (xs.getD k default) ≤ cntTo f xs.length xs := by
  have := cntTo_le f (k + 1) xs.length xs h
  rw [cntTo_succ f k xs h] at this
  exact this
def mkL {α : Type} [Inhabited α] (mk : Int → α → α) (f : α → Nat) (k : Int) (xs : List α) : List α := (List.range xs.length).map (fun i => mk (k + cntTo f i xs) (xs.getD i default))
theorem length_mkL {α : Type} [Inhabited α] (mk : Int → α → α) (f : α → Nat) (k : Int) (xs : List α) : (mkL mk f k xs).length = xs.length := by simp [mkL]
theorem getD_mkL {α : Type} [Inhabited α] (mk : Int → α → α) (f : α → Nat) (k : Int) (xs : List α) (i : Nat) (h : i < xs.length) : (mkL mk f k xs).getD i default = mk (k + cntTo f i xs) (xs.getD i default) := by simp [mkL, List.getD, h]
theorem rows_eq_of {α : Type} [Inhabited α] {xs ys : List α} (hl : ys.length = xs.length) (h : ∀ j, j < xs.length → xs.getD j default = ys.getD j default) : xs = ys := by
  apply List.ext_getElem (by omega)
  intro i h1 h2
  have := h i h1
  simpa [List.getD, h1, h2] using this
def setRow : List Value → Nat → List Value → List Value
  | cs, _, [] => cs
  | cs, o, a :: l => setRow (cs.set o a) (o + 1) l
theorem setRow_old : ∀ (l : List Value) (cs : List Value) (o i : Nat), (i < o ∨ o + l.length ≤ i) → (setRow cs o l)[i]? = cs[i]?
  | [], _, _, _, _ => rfl
  | a :: l, cs, o, i, h => by
    simp only [setRow]
    simp only [List.length_cons] at h
    rw [setRow_old l _ (o + 1) i (by omega), List.getElem?_set_ne (by omega)]
theorem setRow_new : ∀ (l : List Value) (cs : List Value) (o j : Nat), o + l.length ≤ cs.length → j < l.length → (setRow cs o l)[o + j]? = l[j]?
  | [], _, _, _, _, h => by simp at h
  | a :: l, cs, o, 0, h, _ => by
    simp only [setRow, Nat.add_zero]
    simp only [List.length_cons] at h
    rw [setRow_old l _ (o + 1) o (by omega), List.getElem?_set_self (by omega)]
    rfl
  | a :: l, cs, o, j + 1, h, hj => by
    simp only [setRow]
    simp only [List.length_cons] at h hj
    rw [show o + (j + 1) = o + 1 + j by omega, setRow_new l _ (o + 1) j (by rw [List.length_set]; omega) (by omega)]
    rfl
theorem wt_at {α : Type} [Inhabited α] {f : α → Nat} {xs : List α} {k : Nat} {B : Nat} (h : wtL f xs ≤ B) (hk : k < xs.length) : f (xs.getD k default) ≤ B ∧ xs.length ≤ B := by
  have := cntTo_getD f hk
  unfold wtL at h
  omega
theorem PO.at {α : Type} {R : Rep α} {e size : Nat} {lv : Value → List Value} {w : World} {base : Nat} {a : Option Addr} {c n k : Nat} {d : Nat → α} {cs : List Value} {us : Nat → Value} {fs : Nat → Nat → Prop}
    (h : PO R e size lv w base (.slice a n c) n k d cs us fs) {j : Nat} (hj : j < k) (hn : j < n) : ∃ g, a = some ⟨g, 0, none⟩ ∧ ∀ o, o < size → w.cell? ⟨g, j * size + o, none⟩ = (lv (us j))[o]? := by
  rcases h.row.2 with ⟨_, h0⟩ | ⟨g, cap, cur, hv, _⟩
  · omega
  · have hv' := hv
    injection hv' with e1 e2 e3
    refine ⟨g, e1, fun o ho => ?_⟩
    have h1 := h.row
    rw [hv] at h1
    have h2 := h1.cellAt (j * size + o) (by
      have : j * size + size ≤ n * size := by rw [← Nat.succ_mul]; exact Nat.mul_le_mul_right _ hn
      omega)
    rw [h2, h.cell j hj o ho]
theorem PO.len {α : Type} {R : Rep α} {e size : Nat} {lv : Value → List Value} {w : World} {base : Nat} {v : Value} {n k : Nat} {d : Nat → α} {cs : List Value} {us : Nat → Value} {fs : Nat → Nat → Prop}
    (h : PO R e size lv w base v n k d cs us fs) : n ≤ 2 ^ 63 - 1 := by
  rcases h.row.2 with ⟨_, h⟩ | ⟨_, cap, _, _, _, _, h1, h2, _⟩
  · omega
  · unfold maxLen at h2; omega
theorem cells1 {w : World} {b o i : Nat} {u : Value} (h : ∀ j, j < 1 → w.cell? ⟨b, o + i * 1 + j, none⟩ = (one u)[j]?) : w.cell? ⟨b, o + i, none⟩ = some u := by
  simpa [one] using h 0 (by omega)
theorem szLen_neg {left : Int} {n : Nat} (h : szLen left n < 0) (m : Nat) (hm : n ≤ m) : szLen left m = -1 := by
  unfold szLen at h ⊢
  split at h <;> split <;> omega
theorem cntTo_bound {α : Type} {f g : α → Nat} {M : Nat} (h : ∀ x, f x ≤ M * (1 + g x)) : ∀ (k : Nat) (xs : List α), cntTo f k xs ≤ M * (k + cntTo g k xs)
  | 0, _ => by simp [cntTo]
  | k + 1, [] => by simp [cntTo]
  | k + 1, x :: xs => by
    have ih := cntTo_bound h k xs
    have hx := h x
    simp only [cntTo]
    have e : M * (k + 1 + (g x + cntTo g k xs)) = M * (1 + g x) + M * (k + cntTo g k xs) := by rw [← Nat.mul_add]; congr 1; omega
    omega
theorem cntL_le {α : Type} {f g : α → Nat} {M : Nat} (h : ∀ x, f x ≤ M * (1 + g x)) (xs : List α) : cntL f xs ≤ M * wtL g xs := cntTo_bound h xs.length xs
end Go.Proofs.Ytjemciikdijokaa

