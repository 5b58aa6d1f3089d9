import Derived.Test.YtncmdeijimgchaaPrnNewShardLaw1
import Derived.Deep.RegionHeld3
import Derived.Deep.DrawnRows
import Derived.Test.YtncmdeijimgchaaPrnNewShardLaw2
import Derived.Deep.DeepAppendRoom

/-
  Slices of Balance: the law's own copy, comparison, count, marks. (Written by program after my texts on legs.)
-/
namespace Go.Proofs.Ytncmdeijimgchaa
open Go.RowKit
set_option linter.unusedSectionVars false
attribute [local go_sem ↓] Go.wp_at_zero Go.wp_at_succ

structure Bal where
  ac : Int
  ast : Int
  am : Int
variable [DecidableEq Bal] [Inhabited Bal]

def balV (x : Bal) : Value := .agg #[.int .i64 x.ac, .int .i64 x.ast, .int .i64 x.am]
set_option maxHeartbeats 400000 in
theorem toBalance_any (x : Bal) (w : World) :
    Calls Try.prog 76 #[balV x] w fun e w' => e = .returned (balV x) ∧ Below w.heap.size w w' := by
  obtain ⟨a, b, c⟩ := x
  unfold balV
  go_enter Try.func76, Try.ntmps76
  go_wp2
  exact bodyPost_ret (v := .agg #[.int .i64 a, .int .i64 b, .int .i64 c]) (by simp [results, Try.results76, go_sem]) rfl ⟨rfl, balloc (balloc (balloc (Below.refl _ _) _) _) _⟩
set_option maxHeartbeats 400000 in
theorem eqBalance_any (x y : Bal) (w : World) :
    Calls Try.prog 80 #[balV x, balV y] w fun e w' => e = .returned (.bool (decide (x = y))) ∧ Below w.heap.size w w' := by
  obtain ⟨a, b, c⟩ := x
  obtain ⟨a', b', c'⟩ := y
  unfold balV
  go_enter Try.func80, Try.ntmps80
  go_wp2
  all_goals
    go_ret
    exact ⟨by simp_all, balloc (balloc (Below.refl _ _) _) _⟩
def balCells (w : World) (b o : Nat) (x : Bal) : Prop := w.cell? ⟨b, o, none⟩ = some (.int .i64 x.ac) ∧ w.cell? ⟨b, o + 1, none⟩ = some (.int .i64 x.ast) ∧ w.cell? ⟨b, o + 2, none⟩ = some (.int .i64 x.am)
def BalsV (w : World) (v : Value) (xs : List Bal) : Prop :=
  ∃ a cap, v = .slice a xs.length cap ∧ xs.length ≤ cap ∧ cap ≤ maxLen ∧ ∀ i, i < xs.length → ∃ b o, a = some ⟨b, o, none⟩ ∧ balCells w b (o + i * 3) (xs.getD i default)
theorem balCells_below {w w' : World} {b o : Nat} {x : Bal} (hb : Below w.heap.size w w') (h : balCells w b o x) : balCells w' b o x := by
  obtain ⟨h0, h1, h2⟩ := h
  exact ⟨cell_keep hb h0, cell_keep hb h1, cell_keep hb h2⟩
theorem BalsV_below {w w' : World} {v : Value} {xs : List Bal} (h : BalsV w v xs) (hb : Below w.heap.size w w') : BalsV w' v xs := by
  obtain ⟨a, cap, rfl, h1, h2, h3⟩ := h
  exact ⟨a, cap, rfl, h1, h2, fun i hi => by
    obtain ⟨b, o, ha, hc⟩ := h3 i hi
    exact ⟨b, o, ha, balCells_below hb hc⟩⟩
theorem balKeep2 {w w' : World} {b o b' o' : Nat} {x y : Bal} (hb : Below w.heap.size w w') (h : balCells w b o x) (h' : balCells w b' o' y) :
    Below w.heap.size w w' ∧ (w'.cell? ⟨b, o, none⟩ = some (.int .i64 x.ac) ∧ w'.cell? ⟨b, o + 1, none⟩ = some (.int .i64 x.ast) ∧ w'.cell? ⟨b, o + 2, none⟩ = some (.int .i64 x.am)) ∧ (w'.cell? ⟨b', o', none⟩ = some (.int .i64 y.ac) ∧ w'.cell? ⟨b', o' + 1, none⟩ = some (.int .i64 y.ast) ∧ w'.cell? ⟨b', o' + 2, none⟩ = some (.int .i64 y.am)) :=
  ⟨hb, balCells_below hb h, balCells_below hb h'⟩
theorem bals_eq_of {xs ys : List Bal} (hl : ys.length = xs.length) (h : ∀ j, j < xs.length → xs.getD j default = ys.getD j default) : xs = ys := by
  apply List.ext_getElem (by omega)
  intro i h1 h2
  have := h i h1
  simpa [List.getD, h1, h2] using this
set_option maxHeartbeats 1000000 in
theorem eqBalanceS_any (x y : Value) (xs ys : List Bal) (w : World) (hx : BalsV w x xs) (hy : BalsV w y ys) :
    Calls Try.prog 37 #[x, y] w fun e w' => e = .returned (.bool (decide (xs = ys))) ∧ Below w.heap.size w w' := by
  obtain ⟨ax, cx, rfl, hcx, hmx, hx⟩ := hx
  obtain ⟨ay, cy, rfl, hcy, hmy, hy⟩ := hy
  unfold maxLen at hmx hmy
  by_cases hl : ys.length = xs.length
  · rw [hl] at hcy hy ⊢
    have HL : Hid (ys.length = xs.length) := hl
    clear hl
    generalize hn : xs.length = n at *
    have HN : Hid (xs.length = n) := hn
    clear hn
    go_enter Try.func37, Try.ntmps37
    go_wp2
    go_loopw [5] (fun i w' => ∃ k : Nat, k ≤ n ∧ i = .int .i64 k ∧ (∀ j, j < k → xs.getD j default = ys.getD j default) ∧ Below w.heap.size w w') (fun i _ => n - (intOf i).toNat)
    case atStart => exact ⟨0, Nat.zero_le _, rfl, fun j h => absurd h (Nat.not_lt_zero _), Below.refl _ _⟩
    case round =>
      obtain ⟨k, hk, rfl, hpre, hbl⟩ := hrel
      have HP : Hid (∀ j, j < k → xs.getD j default = ys.getD j default) := hpre
      clear hpre
      by_cases hlt : k < n
      · obtain ⟨bx, ox, rfl, h1⟩ := hx k hlt
        obtain ⟨b2, oy, rfl, h2⟩ := hy k hlt
        obtain ⟨l1, hl1⟩ : ∃ l, l = xs.getD k default := ⟨_, rfl⟩
        obtain ⟨l2, hl2⟩ : ∃ l, l = ys.getD k default := ⟨_, rfl⟩
        rw [← hl1] at h1
        rw [← hl2] at h2
        have H1 : Hid (l1 = xs.getD k default) := hl1
        have H2 : Hid (l2 = ys.getD k default) := hl2
        clear hl1 hl2 hx hy
        go_wp2
        go_region_held3 (fun w' => Below w.heap.size w w' ∧ (w'.cell? ⟨bx, ox + k * 3, none⟩ = some (.int .i64 l1.ac) ∧ w'.cell? ⟨bx, ox + k * 3 + 1, none⟩ = some (.int .i64 l1.ast) ∧ w'.cell? ⟨bx, ox + k * 3 + 2, none⟩ = some (.int .i64 l1.am)) ∧ (w'.cell? ⟨b2, oy + k * 3, none⟩ = some (.int .i64 l2.ac) ∧ w'.cell? ⟨b2, oy + k * 3 + 1, none⟩ = some (.int .i64 l2.ast) ∧ w'.cell? ⟨b2, oy + k * 3 + 2, none⟩ = some (.int .i64 l2.am))) ((refine balKeep2 ?_ h1 h2; repeat (first | exact Below.refl _ _ | assumption | refine Below.drew ?_ | refine balloc ?_ _ | refine bstep ?_ (by assumption)))) (first | (go_at_call 80; refine (eqBalance_any l1 l2 _).mono ?_; rintro e w' ⟨rfl, hb1⟩))
        rename_i hH
        have hB := hH.1
        clear hH
        go_wp2
        · rename_i hle
          go_ret
          refine ⟨?_, hB⟩
          have : ¬ xs = ys := fun h => by
            have : l1 = l2 := by rw [H1.out, H2.out, h]
            simp [this] at hle
          simp [this]
        · rename_i hle
          refine ⟨⟨k + 1, by omega, by go_num, fun j hj => ?_, hB⟩, by simp [intOf]; omega⟩
          by_cases hjk : j < k
          · exact HP.out j hjk
          · have : j = k := by omega
            subst this
            rw [← H1.out, ← H2.out]
            simpa using hle
      · go_wp2
        go_ret
        have : k = n := by omega
        subst this
        refine ⟨?_, hbl⟩
        have : xs = ys := bals_eq_of (by rw [HL.out, HN.out]) (by rw [HN.out]; exact HP.out)
        simp [this]
  · go_enter Try.func37, Try.ntmps37
    have hl' : ((xs.length : Int) == (ys.length : Int)) = false := by simp; omega
    go_wp2
    go_ret
    have : ¬ xs = ys := fun h => hl (by rw [h])
    exact ⟨by simp [this], Below.refl _ _⟩
def balC (x : Bal) : List Value := [.int .i64 x.ac, .int .i64 x.ast, .int .i64 x.am]
def balsC (xs : List Bal) : List Value := xs.flatMap balC
theorem infoBal : (Try.prog.info? 129).map (fun i => (i.zero, i.size, i.bytes)) = some (some (.agg #[.int .i64 0, .int .i64 0, .int .i64 0]), 3, 24) := by kernel_rfl
theorem length_balsC (xs : List Bal) : (balsC xs).length = xs.length * 3 := by
  induction xs with
  | nil => rfl
  | cons x r ih =>
    have e : balsC (x :: r) = balC x ++ balsC r := by simp [balsC]
    have l4 : (balC x).length = 3 := rfl
    rw [e, List.length_append, l4, ih, List.length_cons]
    omega
theorem get_balsC (xs : List Bal) : ∀ i, i < xs.length → (balsC xs)[i * 3]? = some (.int .i64 (xs.getD i default).ac) ∧ (balsC xs)[i * 3 + 1]? = some (.int .i64 (xs.getD i default).ast) ∧ (balsC xs)[i * 3 + 2]? = some (.int .i64 (xs.getD i default).am) := by
  induction xs with
  | nil => intro i h; simp at h
  | cons x r ih =>
    intro i h
    cases i with
    | zero => simp [balsC, balC]
    | succ i =>
      have := ih i (by simpa using h)
      have e : balsC (x :: r) = balC x ++ balsC r := by simp [balsC]
      have l4 : (balC x).length = 3 := rfl
      rw [e]
      refine ⟨?_, ?_, ?_⟩
      all_goals rw [List.getElem?_append_right (by omega), l4]
      · rw [show (i + 1) * 3 - 3 = i * 3 by omega]; simpa using this.1
      · rw [show (i + 1) * 3 + 1 - 3 = i * 3 + 1 by omega]; simpa using this.2.1
      · rw [show (i + 1) * 3 + 2 - 3 = i * 3 + 2 by omega]; simpa using this.2.2
theorem BalsV_of_owns {w : World} {base e : Nat} {v : Value} {xs : List Bal} (h : w.ownsRow base e 3 v xs.length (balsC xs)) : BalsV w v xs := by
  rcases h.2 with ⟨rfl, hn⟩ | ⟨g, cap, cur, rfl, hb, hg, hnc, hcm, hcs, htake⟩
  · exact ⟨none, 0, by rw [hn], by omega, by unfold maxLen; omega, fun i hi => by omega⟩
  · refine ⟨some ⟨g, 0, none⟩, cap, rfl, hnc, hcm, fun i hi => ⟨g, 0, rfl, ?_⟩⟩
    obtain ⟨h0, h1, h2⟩ := get_balsC xs i hi
    simp only [Nat.zero_add, balCells]
    exact ⟨(h.cellAt _ (by omega)).trans h0, (h.cellAt _ (by omega)).trans h1, (h.cellAt _ (by omega)).trans h2⟩
def balUpto (k : Nat) (cs : List Value) (xs : List Bal) : Prop := ∀ j, j < k * 3 → cs[j]? = (balsC xs)[j]?
theorem balUpto_full {n : Nat} {cs : List Value} {xs : List Bal} (h : balUpto n cs xs) (hl : cs.length = n * 3) (hn : xs.length = n) : cs = balsC xs := by
  apply List.ext_getElem?
  intro j
  by_cases hj : j < n * 3
  · exact h j hj
  · rw [List.getElem?_eq_none (by omega), List.getElem?_eq_none (by rw [length_balsC]; omega)]
theorem balUpto_set {k : Nat} {cs : List Value} {xs : List Bal} {x : Bal} (h : balUpto k cs xs) (hk : k < xs.length) (hl : cs.length = xs.length * 3) (he : x = xs.getD k default) :
    balUpto (k + 1) (((cs.set (k * 3) (.int .i64 x.ac)).set (k * 3 + 1) (.int .i64 x.ast)).set (k * 3 + 2) (.int .i64 x.am)) xs := by
  intro j hj
  obtain ⟨h0, h1, h2⟩ := get_balsC xs k hk
  subst he
  simp only [List.getElem?_set, List.length_set]
  by_cases e2 : k * 3 + 2 = j
  · subst e2; simp [h2]; omega
  by_cases e1 : k * 3 + 1 = j
  · subst e1; simp [h1]; omega
  by_cases e0 : k * 3 = j
  · subst e0; simp [h0]; omega
  simp [e0, e1, e2]
  exact h j (by omega)
set_option maxHeartbeats 1000000 in
theorem toBalanceS_any (x : Value) (xs : List Bal) (w : World) (hx : BalsV w x xs) (hn : xs.length ≤ 1048576) :
    Calls Try.prog 34 #[x] w fun e w' => ∃ v, e = .returned v ∧ w'.ownsRow w.heap.size 129 3 v xs.length (balsC xs) ∧ Below w.heap.size w w' := by
  obtain ⟨ax, cx, rfl, hcx, hmx, hx⟩ := hx
  unfold maxLen at hmx
  obtain ⟨i0, hi, hz0, hz1, hz2⟩ := info_parts infoBal
  obtain ⟨w1, hmk, hown, hgr⟩ := run_make_full (P := Try.prog) w w.heap.size 71 129 i0 _ 3 Try.underlying71 hi hz0 hz1 .i64 .i64 xs.length (by rw [hz2]; omega) (by unfold maxLen; omega) (Nat.le_refl _)
  have hbl0 : Below w.heap.size w w1 := (Below.refl _ _).grown hgr (Nat.le_refl _) (fun k h => by cases h)
  generalize hn' : xs.length = n at *
  have HN : Hid (xs.length = n) := hn'
  clear hn'
  go_enter Try.func34, Try.ntmps34
  go_wp2
  go_loopw [4] (fun i w' => ∃ (k : Nat) (cs : List Value), k ≤ n ∧ i = .int .i64 k ∧ w'.ownsRow w.heap.size 129 3 (.slice (some ⟨w.heap.size, 0, none⟩) n n) n cs ∧ balUpto k cs xs ∧ Below w.heap.size w w') (fun i _ => n - (intOf i).toNat)
  case atStart => exact ⟨0, _, Nat.zero_le _, rfl, hown, fun j h => by omega, hbl0⟩
  case round =>
    obtain ⟨k, cs, hk, rfl, ho, hup, hbl⟩ := hrel
    have HU : Hid (balUpto k cs xs) := hup
    clear hup hown hmk hgr hbl0
    by_cases hlt : k < n
    · obtain ⟨bx, ox, rfl, h1⟩ := hx k hlt
      obtain ⟨l, hl⟩ : ∃ l, l = xs.getD k default := ⟨_, rfl⟩
      rw [← hl] at h1
      have H1 : Hid (l = xs.getD k default) := hl
      clear hl hx
      obtain ⟨a0, a1, a2⟩ := balCells_below hbl h1
      go_wp2_with fail
      refine (toBalance_any l _).mono ?_
      rintro e wa ⟨rfl, hba⟩
      have ho1 := owns_below ho hba
      obtain ⟨u0, g0⟩ := owns_some ho1 (k * 3) (by omega)
      obtain ⟨u1, g1⟩ := owns_some ho1 (k * 3 + 1) (by omega)
      obtain ⟨u2, g2⟩ := owns_some ho1 (k * 3 + 2) (by omega)
      have hf := fun j => ho1.frozenAt j
      simp only [balV]
      go_wp2
      have s0 := ho1.stored (k * 3) (.int .i64 l.ac)
      have s1 := s0.1.stored (k * 3 + 1) (.int .i64 l.ast)
      have s2 := s1.1.stored (k * 3 + 2) (.int .i64 l.am)
      refine ⟨⟨k + 1, _, by omega, by go_num, s2.1, balUpto_set HU.out (by have := HN.out; omega) (by have := HN.out; have := ho.1; omega) H1.out, ?_⟩, by simp [intOf]; omega⟩
      exact (((bstep hbl hba).setCell (Nat.le_refl _) _).setCell (Nat.le_refl _) _).setCell (Nat.le_refl _) _
    · go_wp2
      go_ret
      have hkn : k = n := by omega
      subst hkn
      have e := balUpto_full HU.out ho.1 HN.out
      subst e
      exact ⟨_, rfl, ho, hbl⟩
def balMark (k : Int) (i : Nat) : Bal := ⟨k + 3 * i, k + 3 * i + 1, k + 3 * i + 1 + 1⟩
def balMarks (k : Int) (n : Nat) : List Bal := (List.range n).map (balMark k)
theorem length_balMarks (k : Int) (n : Nat) : (balMarks k n).length = n := by simp [balMarks]
theorem getD_balMarks (k : Int) (n i : Nat) (h : i < n) : (balMarks k n).getD i default = balMark k i := by simp [balMarks, List.getD, h]
set_option maxHeartbeats 1000000 in
theorem markBalanceS_any (v : Value) (n : Nat) (cs : List Value) (base e : Nat) (k : Int) (w : World) (ho : w.ownsRow base e 3 v n cs) (hn : n ≤ 1048576) (hk0 : 0 ≤ k) (hk1 : k ≤ 1073741824) :
    Calls Try.prog 38 #[v, .int .i64 k] w fun r w' => r = .returned (.int .i64 (k + 3 * n)) ∧ w'.ownsRow base e 3 v n (balsC (balMarks k n)) ∧ w.grownBy w' v.ownBlock := by
  rcases ho.2 with ⟨rfl, rfl⟩ | ⟨g, cap, cur, rfl, hb, hg, hnc, hcm, _, _⟩
  · go_enter Try.func38, Try.ntmps38
    go_wp2
    go_loopw [1, 5] (fun q i w' => q = .int .i64 k ∧ i = .int .i64 0 ∧ w' = w) (fun _ _ _ => 0)
    case atStart => exact ⟨rfl, rfl, rfl⟩
    case round =>
      obtain ⟨rfl, rfl, rfl⟩ := hrel
      go_wp2
      go_ret
      exact ⟨by simp, World.ownsRow_nil _ _ _ _, ⟨rfl, rfl, rfl, Nat.le_refl _, fun _ _ _ => rfl⟩⟩
  · unfold maxLen at hcm
    go_enter Try.func38, Try.ntmps38
    go_wp2
    go_loopw [1, 5] (fun q i w' => ∃ (j : Nat) (cs' : List Value), j ≤ n ∧ i = .int .i64 j ∧ q = .int .i64 (k + 3 * j) ∧ w'.ownsRow base e 3 (.slice (some ⟨g, 0, none⟩) n cap) n cs' ∧ balUpto j cs' (balMarks k n) ∧ w.grownBy w' (some g)) (fun _ i _ => n - (intOf i).toNat)
    case atStart => exact ⟨0, cs, Nat.zero_le _, rfl, by simp, ho, fun j h => by omega, ⟨rfl, rfl, rfl, Nat.le_refl _, fun _ _ _ => rfl⟩⟩
    case round =>
      obtain ⟨j, cs', hj, rfl, rfl, ho1, hup, hgr⟩ := hrel
      have HU : Hid (balUpto j cs' (balMarks k n)) := hup
      clear hup ho hg
      by_cases hlt : j < n
      · obtain ⟨u0, g0⟩ := owns_some ho1 (j * 3) (by omega)
        obtain ⟨u1, g1⟩ := owns_some ho1 (j * 3 + 1) (by omega)
        obtain ⟨u2, g2⟩ := owns_some ho1 (j * 3 + 2) (by omega)
        have hf := fun j => ho1.frozenAt j
        go_wp2
        have s0 := ho1.stored (j * 3) (.int .i64 (k + 3 * j))
        have s1 := s0.1.stored (j * 3 + 1) (.int .i64 (k + 3 * j + 1))
        have s2 := s1.1.stored (j * 3 + 2) (.int .i64 (k + 3 * j + 1 + 1))
        refine ⟨⟨j + 1, _, by omega, by go_num, ?_, s2.1, balUpto_set (x := balMark k j) HU.out (by rw [length_balMarks]; exact hlt) (by rw [length_balMarks]; exact ho1.1) (getD_balMarks k n j hlt).symm, grownTrans (grownTrans (grownTrans (hgr) s0.2) s1.2) s2.2⟩, by simp [intOf]; omega⟩
        congr 1
        omega
      · go_wp2
        go_ret
        have hjn : j = n := by omega
        subst hjn
        have e' := balUpto_full HU.out ho1.1 (length_balMarks k j)
        rw [e'] at ho1
        exact ⟨rfl, ho1, hgr⟩
set_option maxHeartbeats 1000000 in
theorem heldBalanceS_any (v : Value) (n : Nat) (k : Int) (w : World) (hv : BalsV w v (balMarks k n)) (hn : n ≤ 1048576) (hk0 : 0 ≤ k) (hk1 : k ≤ 1073741824) :
    Calls Try.prog 123 #[v, .int .i64 k] w fun r w' => r = .returned (.int .i64 (k + 3 * n)) ∧ w' = w := by
  obtain ⟨a, cap, rfl, hnc, hcm, hc⟩ := hv
  rw [length_balMarks] at hnc hc ⊢
  unfold maxLen at hcm
  go_enter Try.func123, Try.ntmps123
  go_wp2
  go_loopw [1, 5] (fun q i w' => ∃ j : Nat, j ≤ n ∧ i = .int .i64 j ∧ q = .int .i64 (k + 3 * j) ∧ w' = w) (fun _ i _ => n - (intOf i).toNat)
  case atStart => exact ⟨0, Nat.zero_le _, rfl, by simp, rfl⟩
  case round =>
    obtain ⟨j, hj, rfl, rfl, rfl⟩ := hrel
    by_cases hlt : j < n
    · obtain ⟨b, o, rfl, h1⟩ := hc j hlt
      rw [getD_balMarks k n j hlt] at h1
      obtain ⟨g0, g1, g2⟩ := h1
      simp only [balMark] at g0 g1 g2
      clear hc
      go_wp2
      refine ⟨⟨j + 1, by omega, by go_num, ?_, trivial⟩, by simp [intOf]; omega⟩
      congr 1
      omega
    · go_wp2
      go_ret
      have hjn : j = n := by omega
      subst hjn
      exact ⟨rfl, rfl⟩
set_option maxHeartbeats 400000 in
theorem szBalanceS_any (x : Value) (xs : List Bal) (left : Int) (w : World) (hx : BalsV w x xs) (h0 : 0 ≤ left) (h1 : left ≤ 1048576) :
    Calls Try.prog 32 #[x, .int .i64 left] w fun e w' => e = .returned (.int .i64 (szLen left xs.length)) ∧ w' = w := by
  obtain ⟨ax, cx, rfl, hcx, hmx, hx⟩ := hx
  unfold maxLen at hmx
  generalize xs.length = n at *
  clear hx
  by_cases h : left < n
  · have h' : left - (n : Int) < 0 := by omega
    go_enter Try.func32, Try.ntmps32
    go_wp2
    go_ret
    exact ⟨by simp only [szLen, if_pos h]; rfl, rfl⟩
  · have h' : ¬ left - (n : Int) < 0 := by omega
    go_enter Try.func32, Try.ntmps32
    go_wp2
    go_ret
    exact ⟨by rw [szLen, if_neg (by omega)]; rfl, rfl⟩
end Go.Proofs.Ytncmdeijimgchaa

/-
  Rows of impl.Balance: the uniform forms. (Written by program: nest.py.)
-/
namespace Go.Proofs.Ytncmdeijimgchaa
open Go.RowKit
set_option linter.unusedSectionVars false
variable [DecidableEq Bal] [Inhabited Bal]
attribute [local go_sem ↓] Go.wp_at_zero Go.wp_at_succ

def balsR : Rep (List Bal) := fRep 129 3 balsC BalsV BalsV_below BalsV_of_owns
def wtBals (xs : List Bal) : Nat := xs.length
def cntBals (xs : List Bal) : Nat := 3 * xs.length
def mkBals (k : Int) (xs : List Bal) : List Bal := balMarks k xs.length
theorem bals_form {w : World} {v : Value} {xs : List Bal} (h : balsR.V w v xs) : ∃ a c, v = .slice a xs.length c := by
  obtain ⟨a, c, rfl, _⟩ := h
  exact ⟨_, _, rfl⟩
theorem bals_cnt (d : List Bal) : cntBals d ≤ 3 * wtBals d := by unfold cntBals wtBals; omega
theorem toBalanceS_u (x : Value) (d : List Bal) (w : World) (hx : balsR.V w x d) (hn : wtBals d ≤ 1048576) :
    Calls Try.prog 34 #[x] w fun e w' => ∃ v F, e = .returned v ∧ balsR.O w' w.heap.size F v d ∧ Below w.heap.size w w' := by
  refine (toBalanceS_any x d w hx hn).mono ?_
  rintro e w' ⟨v, rfl, ho, hb⟩
  exact ⟨v, _, rfl, ⟨ho, rfl⟩, hb⟩
theorem eqBalanceS_u (x y : Value) (d d' : List Bal) (w : World) (hx : balsR.V w x d) (hy : balsR.V w y d') :
    Calls Try.prog 37 #[x, y] w fun e w' => e = .returned (.bool (decide (d = d'))) ∧ Below w.heap.size w w' := eqBalanceS_any x y d d' w hx hy
theorem szBalanceS_u (x : Value) (d : List Bal) (left : Int) (w : World) (hx : balsR.V w x d) (h0 : 0 ≤ left) (h1 : left ≤ 1048576) :
    Calls Try.prog 32 #[x, .int .i64 left] w fun e w' => e = .returned (.int .i64 (szLen left (wtBals d))) ∧ Below w.heap.size w w' := by
  refine (szBalanceS_any x d left w hx h0 h1).mono ?_
  rintro e w' ⟨rfl, rfl⟩
  exact ⟨rfl, Below.refl _ _⟩
theorem markBalanceS_u (v : Value) (d : List Bal) (base : Nat) (F : Nat → Prop) (k : Int) (w : World) (ho : balsR.O w base F v d) (hw : wtBals d ≤ 1048576) (hn : k + cntBals d ≤ 1073741824) (hk0 : 0 ≤ k) :
    Calls Try.prog 38 #[v, .int .i64 k] w fun r w' => r = .returned (.int .i64 (k + cntBals d)) ∧ balsR.O w' base F v (mkBals k d) ∧ Mod F w w' := by
  refine (markBalanceS_any v d.length _ base _ k w ho.1 hw hk0 (by omega)).mono ?_
  rintro e w' ⟨rfl, h1, h2⟩
  refine ⟨by simp [cntBals], ⟨?_, ho.2⟩, by rw [ho.2]; exact Mod.of_grown h2⟩
  unfold mkBals
  rw [length_balMarks]
  exact h1
theorem heldBalanceS_u (v : Value) (d : List Bal) (k : Int) (w : World) (hv : balsR.V w v (mkBals k d)) (hw : wtBals d ≤ 1048576) (hn : k + cntBals d ≤ 1073741824) (hk0 : 0 ≤ k) :
    Calls Try.prog 123 #[v, .int .i64 k] w fun r w' => r = .returned (.int .i64 (k + cntBals d)) ∧ Below w.heap.size w w' := by
  refine (heldBalanceS_any v d.length k w hv hw hk0 (by omega)).mono ?_
  rintro e w' ⟨rfl, rfl⟩
  exact ⟨by simp [cntBals], Below.refl _ _⟩
end Go.Proofs.Ytncmdeijimgchaa

/-
  Appending what lies anywhere, or nothing.
-/
namespace Go.Proofs.Ytncmdeijimgchaa
open Go.RowKit

def AppAny (w : World) (u : Value) (m : Nat) (news : List Value) : Prop :=
  (∃ c, u = .slice none 0 c ∧ m = 0 ∧ news = []) ∨ ∃ ad c, u = .slice (some ad) m c ∧ ∀ j x, news[j]? = some x → w.cell? (ad.add j) = some x
section
variable {P : Program} (w : World)
theorem run_append_none_any (base : Nat) (t ty e : TypeId) (i : TypeInfo) (size c : Nat) (ht : P.underlying t = some (.slice e)) (hi : P.info? e = some i)
    (v : Value) (n : Nat) (xs : List Value) (hown : w.ownsRow base e size v n xs) :
    (Builtin.append_ #[t, t] ty #[v, .slice none 0 c]).run P w = .ok v w := by
  rcases hown.2 with ⟨rfl, rfl⟩ | ⟨g, cap, cur, rfl, _, _, hnc, _⟩
  · simp [Builtin.append_, run_underlying ht, sizeOf, typeInfo, hi, Builtin.lenOf, Builtin.firstCells]
  · simp [Builtin.append_, run_underlying ht, sizeOf, typeInfo, hi, Builtin.lenOf, Builtin.firstCells, hnc, storeCells]
theorem wp_appAny {o : Oper} {a : Act} {K : Act → World → Prop} {Q : Exit → Act → World → Prop} (s x : Operand) (t : TypeId)
    (ho : o.op = .call { callee := .builtin .append, args := #[s, x], argTypes := #[t, t] })
    (base : Nat) (e : TypeId) (i : TypeInfo) (z : Value) (size bytes : Nat) (ht : P.underlying t = some (.slice e)) (hi : P.info? e = some i) (hz : i.zero = some z)
    (hsize : i.size = size) (hby : i.bytes = bytes) (hzs : z.cells.size = size) (hsz : 0 < size)
    (v : Value) (n : Nat) (xs : List Value) (hs : a.eval s = v) (u : Value) (m : Nat) (news : List Value) (hx : a.eval x = u)
    (hown : w.ownsRow base e size v n xs) (hsrc : AppAny w u m news) (hl : news.length = m * size) (h1 : ∀ u ∈ news, u.oneCell' = true)
    (h63 : n + m ≤ maxLen) (hbytes : (n + m) * bytes ≤ 140737488355328) (hbase : base ≤ w.heap.size)
    (h : ∀ v' w', w'.ownsRow base e size v' (n + m) (xs ++ news) → w.grownBy w' v.ownBlock → (∀ W : World, Below base W w → Below base W w') → K (a.put o.dst v') w') : o.wp P a w K Q := by
  rcases hsrc with ⟨c, rfl, rfl, rfl⟩ | ⟨ad, c, rfl, hnews⟩
  · have hr := run_append_none_any (P := P) w base t o.type e i size c ht hi v n xs hown
    unfold Oper.wp execOp
    simp only [ho, resolve, invoke, builtin, Sem.run_bind, Sem.run_pure, Result.andThen_ok, List.map_toArray, List.map_cons, List.map_nil, hs, hx, hr]
    exact h v w (by simpa using hown) ⟨rfl, rfl, rfl, Nat.le_refl _, fun _ _ _ => rfl⟩ (fun _ hW => hW)
  · exact wp_append_own w s x t ho base e i z size bytes ht hi hz hsize hby hzs hsz v n xs hs hown ad m c news hx hl hnews h1 h63 hbytes hbase (fun v' w' q1 q2 _ => h v' w' q1 q2 (fun W hW => hW.grown q2 hbase (fun k hk => (hown.lt k hk).1)))
theorem step_appAny {ops : Array Oper} {o : Oper} {a : Act} {K : Act → World → Prop} {Q : Exit → Act → World → Prop} {E : Prop} (hgd : o.guard = none) (s x : Operand) (t : TypeId)
    (ho : o.op = .call { callee := .builtin .append, args := #[s, x], argTypes := #[t, t] })
    (base : Nat) (e : TypeId) (i : TypeInfo) (z : Value) (size bytes : Nat) (ht : P.underlying t = some (.slice e)) (hi : P.info? e = some i) (hz : i.zero = some z)
    (hsize : i.size = size) (hby : i.bytes = bytes) (hzs : z.cells.size = size) (hsz : 0 < size)
    (v : Value) (n : Nat) (xs : List Value) (hs : a.eval s = v) (u : Value) (m : Nat) (news : List Value) (hx : a.eval x = u)
    (hown : w.ownsRow base e size v n xs) (hsrc : AppAny w u m news) (hl : news.length = m * size) (h1 : ∀ u ∈ news, u.oneCell' = true)
    (h63 : n + m ≤ maxLen) (hbytes : (n + m) * bytes ≤ 140737488355328) (hbase : base ≤ w.heap.size)
    (h : ∀ v' w', w'.ownsRow base e size v' (n + m) (xs ++ news) → w.grownBy w' v.ownBlock → (∀ W : World, Below base W w → Below base W w') → K (a.put o.dst v') w') :
    if Region.wanted o (yielded ops a.tmps) = true then Oper.wp P o a w K Q else E := by
  have hw : Region.wanted o (yielded ops a.tmps) = true := by simp [Region.wanted, hgd]
  rw [if_pos hw]
  exact wp_appAny w s x t ho base e i z size bytes ht hi hz hsize hby hzs hsz v n xs hs u m news hx hown hsrc hl h1 h63 hbytes hbase h
theorem wpList_appAny {ops : Array Oper} {rest : List Oper} {o : Oper} {a : Act} {Q : Exit → Act → World → Prop} (hgd : o.guard = none) (s x : Operand) (t : TypeId)
    (ho : o.op = .call { callee := .builtin .append, args := #[s, x], argTypes := #[t, t] })
    (base : Nat) (e : TypeId) (i : TypeInfo) (z : Value) (size bytes : Nat) (ht : P.underlying t = some (.slice e)) (hi : P.info? e = some i) (hz : i.zero = some z)
    (hsize : i.size = size) (hby : i.bytes = bytes) (hzs : z.cells.size = size) (hsz : 0 < size)
    (v : Value) (n : Nat) (xs : List Value) (hs : a.eval s = v) (u : Value) (m : Nat) (news : List Value) (hx : a.eval x = u)
    (hown : w.ownsRow base e size v n xs) (hsrc : AppAny w u m news) (hl : news.length = m * size) (h1 : ∀ u ∈ news, u.oneCell' = true)
    (h63 : n + m ≤ maxLen) (hbytes : (n + m) * bytes ≤ 140737488355328) (hbase : base ≤ w.heap.size)
    (h : ∀ v' w', w'.ownsRow base e size v' (n + m) (xs ++ news) → w.grownBy w' v.ownBlock → (∀ W : World, Below base W w → Below base W w') → wpList P ops Q rest (a.put o.dst v') w') :
    wpList P ops Q (o :: rest) a w := by
  refine wpList_plain hgd fun K' hK' => ?_
  exact wp_appAny w s x t ho base e i z size bytes ht hi hz hsize hby hzs hsz v n xs hs u m news hx hown hsrc hl h1 h63 hbytes hbase (fun v' w' q1 q2 q3 => hK' _ _ (h v' w' q1 q2 q3))
end

end Go.Proofs.Ytncmdeijimgchaa

/-
  Appending what lies anywhere, or nothing: balances.
-/
namespace Go.Proofs.Ytncmdeijimgchaa
open Go.RowKit
set_option linter.unusedSectionVars false
variable [DecidableEq Bal] [Inhabited Bal]

theorem appAny_bals {w : World} {v : Value} {xs : List Bal} (h : balsR.V w v xs) : AppAny w v xs.length (balsC xs) := by
  obtain ⟨a, c, rfl, _, _, hc⟩ := h
  cases a with
  | none =>
    have h0 : xs = [] := by
      cases xs with
      | nil => rfl
      | cons x r => obtain ⟨b, o, e, _⟩ := hc 0 (by simp); cases e
    subst h0
    exact .inl ⟨c, rfl, rfl, rfl⟩
  | some ad =>
    refine .inr ⟨ad, c, rfl, fun j x hj => ?_⟩
    have hjl : j < xs.length * 3 := by
      have := (List.getElem?_eq_some_iff.1 hj).1
      rw [length_balsC] at this
      exact this
    have hi : j / 3 < xs.length := by omega
    obtain ⟨b, o, e, g0, g1, g2⟩ := hc (j / 3) hi
    obtain ⟨q0, q1, q2⟩ := get_balsC xs (j / 3) hi
    simp only [Option.some.injEq] at e
    subst e
    have hadd : (Addr.mk b o none).add j = ⟨b, o + j, none⟩ := by
      by_cases h : j = 0
      · subst h; simp [Addr.add]
      · simp [Addr.add, h]
    rw [hadd]
    have hm : j % 3 = 0 ∨ j % 3 = 1 ∨ j % 3 = 2 := by omega
    rcases hm with hm | hm | hm
    · have e : j = j / 3 * 3 := by omega
      have e2 : o + j = o + j / 3 * 3 := by omega
      rw [e2, g0]
      rw [e, q0] at hj
      exact hj
    · have e : j = j / 3 * 3 + 1 := by omega
      have e2 : o + j = o + j / 3 * 3 + 1 := by omega
      rw [e2, g1]
      rw [e, q1] at hj
      exact hj
    · have e : j = j / 3 * 3 + 2 := by omega
      have e2 : o + j = o + j / 3 * 3 + 2 := by omega
      rw [e2, g2]
      rw [e, q2] at hj
      exact hj
end Go.Proofs.Ytncmdeijimgchaa

