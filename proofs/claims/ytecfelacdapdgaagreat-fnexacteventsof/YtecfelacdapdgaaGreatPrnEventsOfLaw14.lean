import Derived.Test.YtecfelacdapdgaaGreatPrnEventsOfLaw1
import Derived.Deep.RegionHeld3
import Derived.Deep.DrawnRows
import Derived.Test.YtecfelacdapdgaaGreatPrnEventsOfLaw2
import Derived.Test.YtecfelacdapdgaaGreatPrnEventsOfLaw10
import Derived.Test.YtecfelacdapdgaaGreatPrnEventsOfLaw13
import Derived.BigQuiet
import Derived.Deep.QuietTactic

/-
  Slices of Balance: the law's own copy, comparison, count, marks. (Written by program after my texts on legs.)
-/
namespace Go.Proofs.YtecfelacdapdgaaGreat
open Go.RowKit
set_option linter.unusedSectionVars false
attribute [local go_sem ↓] Go.wp_at_zero Go.wp_at_succ

structure Bal where
  ac : Int
  ast : Int
  am : Int
variable [DecidableEq Bal] [Inhabited Bal]

def balV (x : Bal) : Value := .agg #[.int .i64 x.ac, .int .i64 x.ast, .int .i64 x.am]
set_option maxHeartbeats 400000 in
theorem toBalance_any (x : Bal) (w : World) :
    Calls Tryz.prog 84 #[balV x] w fun e w' => e = .returned (balV x) ∧ Below w.heap.size w w' := by
  obtain ⟨a, b, c⟩ := x
  unfold balV
  go_enter Tryz.func84, Tryz.ntmps84
  go_wp2
  exact bodyPost_ret (v := .agg #[.int .i64 a, .int .i64 b, .int .i64 c]) (by simp [results, Tryz.results84, go_sem]) rfl ⟨rfl, balloc (balloc (balloc (Below.refl _ _) _) _) _⟩
set_option maxHeartbeats 400000 in
theorem eqBalance_any (x y : Bal) (w : World) :
    Calls Tryz.prog 88 #[balV x, balV y] w fun e w' => e = .returned (.bool (decide (x = y))) ∧ Below w.heap.size w w' := by
  obtain ⟨a, b, c⟩ := x
  obtain ⟨a', b', c'⟩ := y
  unfold balV
  go_enter Tryz.func88, Tryz.ntmps88
  go_wp2
  all_goals
    go_ret
    exact ⟨by simp_all, balloc (balloc (Below.refl _ _) _) _⟩
def balCells (w : World) (b o : Nat) (x : Bal) : Prop := w.cell? ⟨b, o, none⟩ = some (.int .i64 x.ac) ∧ w.cell? ⟨b, o + 1, none⟩ = some (.int .i64 x.ast) ∧ w.cell? ⟨b, o + 2, none⟩ = some (.int .i64 x.am)
def BalsV (w : World) (v : Value) (xs : List Bal) : Prop :=
  ∃ a cap, v = .slice a xs.length cap ∧ xs.length ≤ cap ∧ cap ≤ maxLen ∧ ∀ i, i < xs.length → ∃ b o, a = some ⟨b, o, none⟩ ∧ balCells w b (o + i * 3) (xs.getD i default)
theorem balCells_below {w w' : World} {b o : Nat} {x : Bal} (hb : Below w.heap.size w w') (h : balCells w b o x) : balCells w' b o x := by
  obtain ⟨h0, h1, h2⟩ := h
  exact ⟨cell_keep hb h0, cell_keep hb h1, cell_keep hb h2⟩
theorem BalsV_below {w w' : World} {v : Value} {xs : List Bal} (h : BalsV w v xs) (hb : Below w.heap.size w w') : BalsV w' v xs := by
  obtain ⟨a, cap, rfl, h1, h2, h3⟩ := h
  exact ⟨a, cap, rfl, h1, h2, fun i hi => by
    obtain ⟨b, o, ha, hc⟩ := h3 i hi
    exact ⟨b, o, ha, balCells_below hb hc⟩⟩
theorem balKeep2 {w w' : World} {b o b' o' : Nat} {x y : Bal} (hb : Below w.heap.size w w') (h : balCells w b o x) (h' : balCells w b' o' y) :
    Below w.heap.size w w' ∧ (w'.cell? ⟨b, o, none⟩ = some (.int .i64 x.ac) ∧ w'.cell? ⟨b, o + 1, none⟩ = some (.int .i64 x.ast) ∧ w'.cell? ⟨b, o + 2, none⟩ = some (.int .i64 x.am)) ∧ (w'.cell? ⟨b', o', none⟩ = some (.int .i64 y.ac) ∧ w'.cell? ⟨b', o' + 1, none⟩ = some (.int .i64 y.ast) ∧ w'.cell? ⟨b', o' + 2, none⟩ = some (.int .i64 y.am)) :=
  ⟨hb, balCells_below hb h, balCells_below hb h'⟩
theorem bals_eq_of {xs ys : List Bal} (hl : ys.length = xs.length) (h : ∀ j, j < xs.length → xs.getD j default = ys.getD j default) : xs = ys := by
  apply List.ext_getElem (by omega)
  intro i h1 h2
  have := h i h1
  simpa [List.getD, h1, h2] using this
set_option maxHeartbeats 1000000 in
theorem eqBalanceS_any (x y : Value) (xs ys : List Bal) (w : World) (hx : BalsV w x xs) (hy : BalsV w y ys) :
    Calls Tryz.prog 57 #[x, y] w fun e w' => e = .returned (.bool (decide (xs = ys))) ∧ Below w.heap.size w w' := by
  obtain ⟨ax, cx, rfl, hcx, hmx, hx⟩ := hx
  obtain ⟨ay, cy, rfl, hcy, hmy, hy⟩ := hy
  unfold maxLen at hmx hmy
  by_cases hl : ys.length = xs.length
  · rw [hl] at hcy hy ⊢
    have HL : Hid (ys.length = xs.length) := hl
    clear hl
    generalize hn : xs.length = n at *
    have HN : Hid (xs.length = n) := hn
    clear hn
    go_enter Tryz.func57, Tryz.ntmps57
    go_wp2
    go_loopw [5] (fun i w' => ∃ k : Nat, k ≤ n ∧ i = .int .i64 k ∧ (∀ j, j < k → xs.getD j default = ys.getD j default) ∧ Below w.heap.size w w') (fun i _ => n - (intOf i).toNat)
    case atStart => exact ⟨0, Nat.zero_le _, rfl, fun j h => absurd h (Nat.not_lt_zero _), Below.refl _ _⟩
    case round =>
      obtain ⟨k, hk, rfl, hpre, hbl⟩ := hrel
      have HP : Hid (∀ j, j < k → xs.getD j default = ys.getD j default) := hpre
      clear hpre
      by_cases hlt : k < n
      · obtain ⟨bx, ox, rfl, h1⟩ := hx k hlt
        obtain ⟨b2, oy, rfl, h2⟩ := hy k hlt
        obtain ⟨l1, hl1⟩ : ∃ l, l = xs.getD k default := ⟨_, rfl⟩
        obtain ⟨l2, hl2⟩ : ∃ l, l = ys.getD k default := ⟨_, rfl⟩
        rw [← hl1] at h1
        rw [← hl2] at h2
        have H1 : Hid (l1 = xs.getD k default) := hl1
        have H2 : Hid (l2 = ys.getD k default) := hl2
        clear hl1 hl2 hx hy
        go_wp2
        go_region_held3 (fun w' => Below w.heap.size w w' ∧ (w'.cell? ⟨bx, ox + k * 3, none⟩ = some (.int .i64 l1.ac) ∧ w'.cell? ⟨bx, ox + k * 3 + 1, none⟩ = some (.int .i64 l1.ast) ∧ w'.cell? ⟨bx, ox + k * 3 + 2, none⟩ = some (.int .i64 l1.am)) ∧ (w'.cell? ⟨b2, oy + k * 3, none⟩ = some (.int .i64 l2.ac) ∧ w'.cell? ⟨b2, oy + k * 3 + 1, none⟩ = some (.int .i64 l2.ast) ∧ w'.cell? ⟨b2, oy + k * 3 + 2, none⟩ = some (.int .i64 l2.am))) ((refine balKeep2 ?_ h1 h2; repeat (first | exact Below.refl _ _ | assumption | refine Below.drew ?_ | refine balloc ?_ _ | refine bstep ?_ (by assumption)))) (first | (go_at_call 88; refine (eqBalance_any l1 l2 _).mono ?_; rintro e w' ⟨rfl, hb1⟩))
        rename_i hH
        have hB := hH.1
        clear hH
        go_wp2
        · rename_i hle
          go_ret
          refine ⟨?_, hB⟩
          have : ¬ xs = ys := fun h => by
            have : l1 = l2 := by rw [H1.out, H2.out, h]
            simp [this] at hle
          simp [this]
        · rename_i hle
          refine ⟨⟨k + 1, by omega, by go_num, fun j hj => ?_, hB⟩, by simp [intOf]; omega⟩
          by_cases hjk : j < k
          · exact HP.out j hjk
          · have : j = k := by omega
            subst this
            rw [← H1.out, ← H2.out]
            simpa using hle
      · go_wp2
        go_ret
        have : k = n := by omega
        subst this
        refine ⟨?_, hbl⟩
        have : xs = ys := bals_eq_of (by rw [HL.out, HN.out]) (by rw [HN.out]; exact HP.out)
        simp [this]
  · go_enter Tryz.func57, Tryz.ntmps57
    have hl' : ((xs.length : Int) == (ys.length : Int)) = false := by simp; omega
    go_wp2
    go_ret
    have : ¬ xs = ys := fun h => hl (by rw [h])
    exact ⟨by simp [this], Below.refl _ _⟩
def balC (x : Bal) : List Value := [.int .i64 x.ac, .int .i64 x.ast, .int .i64 x.am]
def balsC (xs : List Bal) : List Value := xs.flatMap balC
theorem infoBal : (Tryz.prog.info? 130).map (fun i => (i.zero, i.size, i.bytes)) = some (some (.agg #[.int .i64 0, .int .i64 0, .int .i64 0]), 3, 24) := by kernel_rfl
theorem length_balsC (xs : List Bal) : (balsC xs).length = xs.length * 3 := by
  induction xs with
  | nil => rfl
  | cons x r ih =>
    have e : balsC (x :: r) = balC x ++ balsC r := by simp [balsC]
    have l4 : (balC x).length = 3 := rfl
    rw [e, List.length_append, l4, ih, List.length_cons]
    omega
theorem get_balsC (xs : List Bal) : ∀ i, i < xs.length → (balsC xs)[i * 3]? = some (.int .i64 (xs.getD i default).ac) ∧ (balsC xs)[i * 3 + 1]? = some (.int .i64 (xs.getD i default).ast) ∧ (balsC xs)[i * 3 + 2]? = some (.int .i64 (xs.getD i default).am) := by
  induction xs with
  | nil => intro i h; simp at h
  | cons x r ih =>
    intro i h
    cases i with
    | zero => simp [balsC, balC]
    | succ i =>
      have := ih i (by simpa using h)
      have e : balsC (x :: r) = balC x ++ balsC r := by simp [balsC]
      have l4 : (balC x).length = 3 := rfl
      rw [e]
      refine ⟨?_, ?_, ?_⟩
      all_goals rw [List.getElem?_append_right (by omega), l4]
      · rw [show (i + 1) * 3 - 3 = i * 3 by omega]; simpa using this.1
      · rw [show (i + 1) * 3 + 1 - 3 = i * 3 + 1 by omega]; simpa using this.2.1
      · rw [show (i + 1) * 3 + 2 - 3 = i * 3 + 2 by omega]; simpa using this.2.2
theorem BalsV_of_owns {w : World} {base e : Nat} {v : Value} {xs : List Bal} (h : w.ownsRow base e 3 v xs.length (balsC xs)) : BalsV w v xs := by
  rcases h.2 with ⟨rfl, hn⟩ | ⟨g, cap, cur, rfl, hb, hg, hnc, hcm, hcs, htake⟩
  · exact ⟨none, 0, by rw [hn], by omega, by unfold maxLen; omega, fun i hi => by omega⟩
  · refine ⟨some ⟨g, 0, none⟩, cap, rfl, hnc, hcm, fun i hi => ⟨g, 0, rfl, ?_⟩⟩
    obtain ⟨h0, h1, h2⟩ := get_balsC xs i hi
    simp only [Nat.zero_add, balCells]
    exact ⟨(h.cellAt _ (by omega)).trans h0, (h.cellAt _ (by omega)).trans h1, (h.cellAt _ (by omega)).trans h2⟩
def balUpto (k : Nat) (cs : List Value) (xs : List Bal) : Prop := ∀ j, j < k * 3 → cs[j]? = (balsC xs)[j]?
theorem balUpto_full {n : Nat} {cs : List Value} {xs : List Bal} (h : balUpto n cs xs) (hl : cs.length = n * 3) (hn : xs.length = n) : cs = balsC xs := by
  apply List.ext_getElem?
  intro j
  by_cases hj : j < n * 3
  · exact h j hj
  · rw [List.getElem?_eq_none (by omega), List.getElem?_eq_none (by rw [length_balsC]; omega)]
theorem balUpto_set {k : Nat} {cs : List Value} {xs : List Bal} {x : Bal} (h : balUpto k cs xs) (hk : k < xs.length) (hl : cs.length = xs.length * 3) (he : x = xs.getD k default) :
    balUpto (k + 1) (((cs.set (k * 3) (.int .i64 x.ac)).set (k * 3 + 1) (.int .i64 x.ast)).set (k * 3 + 2) (.int .i64 x.am)) xs := by
  intro j hj
  obtain ⟨h0, h1, h2⟩ := get_balsC xs k hk
  subst he
  simp only [List.getElem?_set, List.length_set]
  by_cases e2 : k * 3 + 2 = j
  · subst e2; simp [h2]; omega
  by_cases e1 : k * 3 + 1 = j
  · subst e1; simp [h1]; omega
  by_cases e0 : k * 3 = j
  · subst e0; simp [h0]; omega
  simp [e0, e1, e2]
  exact h j (by omega)
set_option maxHeartbeats 1000000 in
theorem toBalanceS_any (x : Value) (xs : List Bal) (w : World) (hx : BalsV w x xs) (hn : xs.length ≤ 1048576) :
    Calls Tryz.prog 53 #[x] w fun e w' => ∃ v, e = .returned v ∧ w'.ownsRow w.heap.size 130 3 v xs.length (balsC xs) ∧ Below w.heap.size w w' := by
  obtain ⟨ax, cx, rfl, hcx, hmx, hx⟩ := hx
  unfold maxLen at hmx
  obtain ⟨i0, hi, hz0, hz1, hz2⟩ := info_parts infoBal
  obtain ⟨w1, hmk, hown, hgr⟩ := run_make_full (P := Tryz.prog) w w.heap.size 63 130 i0 _ 3 Tryz.underlying63 hi hz0 hz1 .i64 .i64 xs.length (by rw [hz2]; omega) (by unfold maxLen; omega) (Nat.le_refl _)
  have hbl0 : Below w.heap.size w w1 := (Below.refl _ _).grown hgr (Nat.le_refl _) (fun k h => by cases h)
  generalize hn' : xs.length = n at *
  have HN : Hid (xs.length = n) := hn'
  clear hn'
  go_enter Tryz.func53, Tryz.ntmps53
  go_wp2
  go_loopw [4] (fun i w' => ∃ (k : Nat) (cs : List Value), k ≤ n ∧ i = .int .i64 k ∧ w'.ownsRow w.heap.size 130 3 (.slice (some ⟨w.heap.size, 0, none⟩) n n) n cs ∧ balUpto k cs xs ∧ Below w.heap.size w w') (fun i _ => n - (intOf i).toNat)
  case atStart => exact ⟨0, _, Nat.zero_le _, rfl, hown, fun j h => by omega, hbl0⟩
  case round =>
    obtain ⟨k, cs, hk, rfl, ho, hup, hbl⟩ := hrel
    have HU : Hid (balUpto k cs xs) := hup
    clear hup hown hmk hgr hbl0
    by_cases hlt : k < n
    · obtain ⟨bx, ox, rfl, h1⟩ := hx k hlt
      obtain ⟨l, hl⟩ : ∃ l, l = xs.getD k default := ⟨_, rfl⟩
      rw [← hl] at h1
      have H1 : Hid (l = xs.getD k default) := hl
      clear hl hx
      obtain ⟨a0, a1, a2⟩ := balCells_below hbl h1
      go_wp2_with fail
      refine (toBalance_any l _).mono ?_
      rintro e wa ⟨rfl, hba⟩
      have ho1 := owns_below ho hba
      obtain ⟨u0, g0⟩ := owns_some ho1 (k * 3) (by omega)
      obtain ⟨u1, g1⟩ := owns_some ho1 (k * 3 + 1) (by omega)
      obtain ⟨u2, g2⟩ := owns_some ho1 (k * 3 + 2) (by omega)
      have hf := fun j => ho1.frozenAt j
      simp only [balV]
      go_wp2
      have s0 := ho1.stored (k * 3) (.int .i64 l.ac)
      have s1 := s0.1.stored (k * 3 + 1) (.int .i64 l.ast)
      have s2 := s1.1.stored (k * 3 + 2) (.int .i64 l.am)
      refine ⟨⟨k + 1, _, by omega, by go_num, s2.1, balUpto_set HU.out (by have := HN.out; omega) (by have := HN.out; have := ho.1; omega) H1.out, ?_⟩, by simp [intOf]; omega⟩
      exact (((bstep hbl hba).setCell (Nat.le_refl _) _).setCell (Nat.le_refl _) _).setCell (Nat.le_refl _) _
    · go_wp2
      go_ret
      have hkn : k = n := by omega
      subst hkn
      have e := balUpto_full HU.out ho.1 HN.out
      subst e
      exact ⟨_, rfl, ho, hbl⟩
def balMark (k : Int) (i : Nat) : Bal := ⟨k + 3 * i, k + 3 * i + 1, k + 3 * i + 1 + 1⟩
def balMarks (k : Int) (n : Nat) : List Bal := (List.range n).map (balMark k)
theorem length_balMarks (k : Int) (n : Nat) : (balMarks k n).length = n := by simp [balMarks]
theorem getD_balMarks (k : Int) (n i : Nat) (h : i < n) : (balMarks k n).getD i default = balMark k i := by simp [balMarks, List.getD, h]
set_option maxHeartbeats 1000000 in
theorem markBalanceS_any (v : Value) (n : Nat) (cs : List Value) (base e : Nat) (k : Int) (w : World) (ho : w.ownsRow base e 3 v n cs) (hn : n ≤ 1048576) (hk0 : 0 ≤ k) (hk1 : k ≤ 1073741824) :
    Calls Tryz.prog 59 #[v, .int .i64 k] w fun r w' => r = .returned (.int .i64 (k + 3 * n)) ∧ w'.ownsRow base e 3 v n (balsC (balMarks k n)) ∧ w.grownBy w' v.ownBlock := by
  rcases ho.2 with ⟨rfl, rfl⟩ | ⟨g, cap, cur, rfl, hb, hg, hnc, hcm, _, _⟩
  · go_enter Tryz.func59, Tryz.ntmps59
    go_wp2
    go_loopw [1, 5] (fun q i w' => q = .int .i64 k ∧ i = .int .i64 0 ∧ w' = w) (fun _ _ _ => 0)
    case atStart => exact ⟨rfl, rfl, rfl⟩
    case round =>
      obtain ⟨rfl, rfl, rfl⟩ := hrel
      go_wp2
      go_ret
      exact ⟨by simp, World.ownsRow_nil _ _ _ _, ⟨rfl, rfl, rfl, Nat.le_refl _, fun _ _ _ => rfl⟩⟩
  · unfold maxLen at hcm
    go_enter Tryz.func59, Tryz.ntmps59
    go_wp2
    go_loopw [1, 5] (fun q i w' => ∃ (j : Nat) (cs' : List Value), j ≤ n ∧ i = .int .i64 j ∧ q = .int .i64 (k + 3 * j) ∧ w'.ownsRow base e 3 (.slice (some ⟨g, 0, none⟩) n cap) n cs' ∧ balUpto j cs' (balMarks k n) ∧ w.grownBy w' (some g)) (fun _ i _ => n - (intOf i).toNat)
    case atStart => exact ⟨0, cs, Nat.zero_le _, rfl, by simp, ho, fun j h => by omega, ⟨rfl, rfl, rfl, Nat.le_refl _, fun _ _ _ => rfl⟩⟩
    case round =>
      obtain ⟨j, cs', hj, rfl, rfl, ho1, hup, hgr⟩ := hrel
      have HU : Hid (balUpto j cs' (balMarks k n)) := hup
      clear hup ho hg
      by_cases hlt : j < n
      · obtain ⟨u0, g0⟩ := owns_some ho1 (j * 3) (by omega)
        obtain ⟨u1, g1⟩ := owns_some ho1 (j * 3 + 1) (by omega)
        obtain ⟨u2, g2⟩ := owns_some ho1 (j * 3 + 2) (by omega)
        have hf := fun j => ho1.frozenAt j
        go_wp2
        have s0 := ho1.stored (j * 3) (.int .i64 (k + 3 * j))
        have s1 := s0.1.stored (j * 3 + 1) (.int .i64 (k + 3 * j + 1))
        have s2 := s1.1.stored (j * 3 + 2) (.int .i64 (k + 3 * j + 1 + 1))
        refine ⟨⟨j + 1, _, by omega, by go_num, ?_, s2.1, balUpto_set (x := balMark k j) HU.out (by rw [length_balMarks]; exact hlt) (by rw [length_balMarks]; exact ho1.1) (getD_balMarks k n j hlt).symm, grownTrans (grownTrans (grownTrans (hgr) s0.2) s1.2) s2.2⟩, by simp [intOf]; omega⟩
        congr 1
        omega
      · go_wp2
        go_ret
        have hjn : j = n := by omega
        subst hjn
        have e' := balUpto_full HU.out ho1.1 (length_balMarks k j)
        rw [e'] at ho1
        exact ⟨rfl, ho1, hgr⟩
set_option maxHeartbeats 400000 in
theorem szBalanceS_any (x : Value) (xs : List Bal) (left : Int) (w : World) (hx : BalsV w x xs) (h0 : 0 ≤ left) (h1 : left ≤ 1048576) :
    Calls Tryz.prog 49 #[x, .int .i64 left] w fun e w' => e = .returned (.int .i64 (szLen left xs.length)) ∧ w' = w := by
  obtain ⟨ax, cx, rfl, hcx, hmx, hx⟩ := hx
  unfold maxLen at hmx
  generalize xs.length = n at *
  clear hx
  by_cases h : left < n
  · have h' : left - (n : Int) < 0 := by omega
    go_enter Tryz.func49, Tryz.ntmps49
    go_wp2
    go_ret
    exact ⟨by simp only [szLen, if_pos h]; rfl, rfl⟩
  · have h' : ¬ left - (n : Int) < 0 := by omega
    go_enter Tryz.func49, Tryz.ntmps49
    go_wp2
    go_ret
    exact ⟨by rw [szLen, if_neg (by omega)]; rfl, rfl⟩
end Go.Proofs.YtecfelacdapdgaaGreat

/-
  Rows of impl.Balance: the uniform forms. (Written by program: nest.py.)
-/
namespace Go.Proofs.YtecfelacdapdgaaGreat
open Go.RowKit
set_option linter.unusedSectionVars false
variable [DecidableEq Bal] [Inhabited Bal]
attribute [local go_sem ↓] Go.wp_at_zero Go.wp_at_succ

def balsR : Rep (List Bal) := fRep 130 3 balsC BalsV BalsV_below BalsV_of_owns
def wtBals (xs : List Bal) : Nat := xs.length
def cntBals (xs : List Bal) : Nat := 3 * xs.length
def mkBals (k : Int) (xs : List Bal) : List Bal := balMarks k xs.length
theorem bals_form {w : World} {v : Value} {xs : List Bal} (h : balsR.V w v xs) : ∃ a c, v = .slice a xs.length c := by
  obtain ⟨a, c, rfl, _⟩ := h
  exact ⟨_, _, rfl⟩
theorem bals_cnt (d : List Bal) : cntBals d ≤ 3 * wtBals d := by unfold cntBals wtBals; omega
theorem toBalanceS_u (x : Value) (d : List Bal) (w : World) (hx : balsR.V w x d) (hn : wtBals d ≤ 1048576) :
    Calls Tryz.prog 53 #[x] w fun e w' => ∃ v F, e = .returned v ∧ balsR.O w' w.heap.size F v d ∧ Below w.heap.size w w' := by
  refine (toBalanceS_any x d w hx hn).mono ?_
  rintro e w' ⟨v, rfl, ho, hb⟩
  exact ⟨v, _, rfl, ⟨ho, rfl⟩, hb⟩
theorem eqBalanceS_u (x y : Value) (d d' : List Bal) (w : World) (hx : balsR.V w x d) (hy : balsR.V w y d') :
    Calls Tryz.prog 57 #[x, y] w fun e w' => e = .returned (.bool (decide (d = d'))) ∧ Below w.heap.size w w' := eqBalanceS_any x y d d' w hx hy
theorem szBalanceS_u (x : Value) (d : List Bal) (left : Int) (w : World) (hx : balsR.V w x d) (h0 : 0 ≤ left) (h1 : left ≤ 1048576) :
    Calls Tryz.prog 49 #[x, .int .i64 left] w fun e w' => e = .returned (.int .i64 (szLen left (wtBals d))) ∧ Below w.heap.size w w' := by
  refine (szBalanceS_any x d left w hx h0 h1).mono ?_
  rintro e w' ⟨rfl, rfl⟩
  exact ⟨rfl, Below.refl _ _⟩
theorem markBalanceS_u (v : Value) (d : List Bal) (base : Nat) (F : Nat → Prop) (k : Int) (w : World) (ho : balsR.O w base F v d) (hw : wtBals d ≤ 1048576) (hn : k + cntBals d ≤ 1073741824) (hk0 : 0 ≤ k) :
    Calls Tryz.prog 59 #[v, .int .i64 k] w fun r w' => r = .returned (.int .i64 (k + cntBals d)) ∧ balsR.O w' base F v (mkBals k d) ∧ Mod F w w' := by
  refine (markBalanceS_any v d.length _ base _ k w ho.1 hw hk0 (by omega)).mono ?_
  rintro e w' ⟨rfl, h1, h2⟩
  refine ⟨by simp [cntBals], ⟨?_, ho.2⟩, by rw [ho.2]; exact Mod.of_grown h2⟩
  unfold mkBals
  rw [length_balMarks]
  exact h1
end Go.Proofs.YtecfelacdapdgaaGreat

/-
  Journal. (Written by program: nest.py.)
-/
namespace Go.Proofs.YtecfelacdapdgaaGreat
open Go.RowKit
set_option linter.unusedSectionVars false
variable [DecidableEq Bal] [Inhabited Bal] [DecidableEq Logg] [Inhabited Logg]
attribute [local go_sem ↓] Go.wp_at_zero Go.wp_at_succ

set_option linter.unusedSimpArgs false

structure Jrn where
  idx : Int
  start : List Bal
  log : Logg
variable [DecidableEq Jrn] [Inhabited Jrn]

def jrnR : Rep Jrn where
  V := fun w v x => ∃ u1 u2_1 u2_2, v = .agg #[.int .i64 x.idx, u1, u2_1, u2_2] ∧ balsR.V w u1 x.start ∧ loggR.V w (.agg #[u2_1, u2_2]) x.log
  O := fun w base F v x => ∃ u1 u2_1 u2_2 F1 F2, v = .agg #[.int .i64 x.idx, u1, u2_1, u2_2] ∧ balsR.O w base F1 u1 x.start ∧ loggR.O w base F2 (.agg #[u2_1, u2_2]) x.log ∧ (∀ b, F1 b → ¬ F2 b) ∧ (∀ b, F b ↔ (F1 b ∨ F2 b))
  below := fun h hb => by
    obtain ⟨u1, u2_1, u2_2, rfl, h1, h2⟩ := h
    exact ⟨u1, u2_1, u2_2, rfl, balsR.below h1 hb, loggR.below h2 hb⟩
  ofO := fun h => by
    obtain ⟨u1, u2_1, u2_2, F1, F2, rfl, h1, h2, _⟩ := h
    exact ⟨u1, u2_1, u2_2, rfl, balsR.ofO h1, loggR.ofO h2⟩
  mod := fun h hm hd => by
    obtain ⟨u1, u2_1, u2_2, F1, F2, rfl, h1, h2, s12, hF⟩ := h
    exact ⟨u1, u2_1, u2_2, F1, F2, rfl, balsR.mod h1 hm (fun b hb => hd b ((hF b).2 (.inl hb))), loggR.mod h2 hm (fun b hb => hd b ((hF b).2 (.inr hb))), s12, hF⟩
  rng := fun h b hb => by
    obtain ⟨u1, u2_1, u2_2, F1, F2, rfl, h1, h2, s12, hF⟩ := h
    rcases (hF b).1 hb with hb | hb
    · exact balsR.rng h1 b hb
    · exact loggR.rng h2 b hb
  base := fun h hb => by
    obtain ⟨u1, u2_1, u2_2, F1, F2, rfl, h1, h2, s12, hF⟩ := h
    exact ⟨u1, u2_1, u2_2, F1, F2, rfl, balsR.base h1 hb, loggR.base h2 hb, s12, hF⟩
def wtJrn (x : Jrn) : Nat := wtBals x.start + wtLogg x.log
def cntJrn (x : Jrn) : Nat := cntBals x.start + cntLogg x.log
def mkJrn (k : Int) (x : Jrn) : Jrn := { x with start := mkBals k x.start, log := mkLogg (k + cntBals x.start) x.log }
theorem jrn_form {w : World} {v : Value} {x : Jrn} (h : jrnR.V w v x) : ∃ a1 a2_1 a2_2 c1 c2_1 c2_2, v = .agg #[.int .i64 x.idx, .slice a1 x.start.length c1, .slice a2_1 x.log.synced.length c2_1, .slice a2_2 x.log.loose.length c2_2] := by
  obtain ⟨u1, u2_1, u2_2, rfl, h1, h2⟩ := h
  obtain ⟨a1, c1, rfl⟩ := bals_form h1
  obtain ⟨a2_1, a2_2, c2_1, c2_2, e2⟩ := logg_form h2
  simp only [Value.agg.injEq, Array.mk.injEq, List.cons.injEq, and_true] at e2
  obtain ⟨rfl, rfl⟩ := e2
  exact ⟨_, _, _, _, _, _, rfl⟩
theorem jrn_cnt (d : Jrn) : cntJrn d ≤ 3 * wtJrn d := by
  unfold cntJrn wtJrn
  have q1 := bals_cnt d.start
  have q2 := logg_cnt d.log
  omega
set_option maxHeartbeats 2000000 in
theorem toJournal_u (x : Value) (d : Jrn) (w : World) (hx : jrnR.V w x d) (hn : wtJrn d ≤ 1048576) :
    Calls Tryz.prog 28 #[x] w fun e w' => ∃ v F, e = .returned v ∧ jrnR.O w' w.heap.size F v d ∧ Below w.heap.size w w' := by
  obtain ⟨u1, u2_1, u2_2, rfl, h1, h2⟩ := hx
  unfold wtJrn at hn
  go_enter Tryz.func28, Tryz.ntmps28
  go_wp2_with fail
  refine (toBalanceS_u _ d.start _ (balsR.below h1 (by (repeat (first | exact Below.refl _ _ | assumption | refine Below.drew ?_ | refine balloc ?_ _ | refine bset ?_ (by simp; omega) _ | refine bset ?_ (by simp) _ | refine bstep ?_ (by assumption))))) (by omega)).mono ?_
  rintro e w1 ⟨v1, F1, rfl, o1, b1⟩
  have hB1 : Below w.heap.size w w1 := bstep (by (repeat (first | exact Below.refl _ _ | assumption | refine Below.drew ?_ | refine balloc ?_ _ | refine bset ?_ (by simp; omega) _ | refine bset ?_ (by simp) _ | refine bstep ?_ (by assumption)))) b1
  obtain ⟨a1, n1, rfl⟩ := bals_form (balsR.ofO o1)
  obtain ⟨c1, f1⟩ := bcell b1
  have z1 := b1.size
  simp at z1
  have l1 := fun b hb => balsR.rng o1 b hb
  simp at l1
  replace o1 := balsR.base (base' := w.heap.size + 3) o1 (by simp; try omega)
  have y0 : w1.cell? ⟨w.heap.size, 0, none⟩ = some (.int .i64 d.idx) := cell_keep b1 (by simp [go_sem])
  have y1 : w1.cell? ⟨w.heap.size, 1, none⟩ = some (u1) := cell_keep b1 (by simp [go_sem])
  have y2 : w1.cell? ⟨w.heap.size, 2, none⟩ = some (u2_1) := cell_keep b1 (by simp [go_sem])
  have y3 : w1.cell? ⟨w.heap.size, 3, none⟩ = some (u2_2) := cell_keep b1 (by simp [go_sem])
  have r0 : w1.cell? ⟨w.heap.size + 1, 0, none⟩ = some (.int .i64 0) := cell_keep b1 (by simp [go_sem])
  have r1 : w1.cell? ⟨w.heap.size + 1, 1, none⟩ = some (.slice none 0 0) := cell_keep b1 (by simp [go_sem])
  have r2 : w1.cell? ⟨w.heap.size + 1, 2, none⟩ = some (.slice none 0 0) := cell_keep b1 (by simp [go_sem])
  have r3 : w1.cell? ⟨w.heap.size + 1, 3, none⟩ = some (.slice none 0 0) := cell_keep b1 (by simp [go_sem])
  have s0 : w1.cell? ⟨w.heap.size + 2, 0, none⟩ = some (.int .i64 d.idx) := cell_keep b1 (by simp [go_sem])
  have s1 : w1.cell? ⟨w.heap.size + 2, 1, none⟩ = some (.slice none 0 0) := cell_keep b1 (by simp [go_sem])
  have s2 : w1.cell? ⟨w.heap.size + 2, 2, none⟩ = some (.slice none 0 0) := cell_keep b1 (by simp [go_sem])
  have s3 : w1.cell? ⟨w.heap.size + 2, 3, none⟩ = some (.slice none 0 0) := cell_keep b1 (by simp [go_sem])
  have t1 : ∀ o, w1.frozen? ⟨w.heap.size + 1, o, none⟩ = false := fun o => by rw [f1 _ _ (by simp; try omega)]; simp [go_sem]
  have t2 : ∀ o, w1.frozen? ⟨w.heap.size + 2, o, none⟩ = false := fun o => by rw [f1 _ _ (by simp; try omega)]; simp [go_sem]
  clear c1 f1
  have x0 := y0
  have x1 := y1
  have x2 := y2
  have x3 := y3
  have q0 := r0
  have q1 := r1
  have q2 := r2
  have q3 := r3
  have p0 := s0
  have p1 := s1
  have p2 := s2
  have p3 := s3
  have qf := t1
  have pf := t2
  clear t1 t2 y0 y1 y2 y3 r0 r1 r2 r3 s0 s1 s2 s3
  clear b1
  go_wp2_with fail
  refine (toLog_u _ d.log _ (loggR.below h2 (by (repeat (first | refine bset ?_ (by simp; omega) _ | refine bset ?_ (by simp) _ | refine balloc ?_ _ | assumption)))) (by omega)).mono ?_
  rintro e w2 ⟨v2, F2, rfl, o2, b2⟩
  have hB2 : Below w.heap.size w w2 := bstep (by (repeat (first | refine bset ?_ (by simp; omega) _ | refine bset ?_ (by simp) _ | refine balloc ?_ _ | assumption))) b2
  have ofm2 := loggR.ofO o2
  obtain ⟨x2_1, x2_2, rfl, y2_1, y2_2⟩ := ofm2
  obtain ⟨a2_1, n2_1, rfl⟩ := bytes_form y2_1
  obtain ⟨a2_2, n2_2, rfl⟩ := bytes_form y2_2
  obtain ⟨c2, f2⟩ := bcell b2
  have z2 := b2.size
  simp at z2
  have l2 := fun b hb => loggR.rng o2 b hb
  simp at l2
  replace o2 := loggR.base (base' := w.heap.size + 3) o2 (by simp; try omega)
  have hk1 : ∀ F v x, balsR.O w1 (w.heap.size + 3) F v x → balsR.O w2 (w.heap.size + 3) F v x := fun F v x o => balsR.keep (by (repeat (first | refine Rep.set _ ?_ _ (by simp; omega) | refine Rep.set _ ?_ _ (by simp) | refine Rep.alloc _ ?_ _ | assumption))) b2
  replace o1 := hk1 _ _ _ o1
  clear hk1
  have y0 : w2.cell? ⟨w.heap.size, 0, none⟩ = some (.int .i64 d.idx) := cell_keep b2 (by simp [go_sem, x0, x1, x2, x3, q0, q1, q2, q3, p0, p1, p2, p3])
  have y1 : w2.cell? ⟨w.heap.size, 1, none⟩ = some (u1) := cell_keep b2 (by simp [go_sem, x0, x1, x2, x3, q0, q1, q2, q3, p0, p1, p2, p3])
  have y2 : w2.cell? ⟨w.heap.size, 2, none⟩ = some (u2_1) := cell_keep b2 (by simp [go_sem, x0, x1, x2, x3, q0, q1, q2, q3, p0, p1, p2, p3])
  have y3 : w2.cell? ⟨w.heap.size, 3, none⟩ = some (u2_2) := cell_keep b2 (by simp [go_sem, x0, x1, x2, x3, q0, q1, q2, q3, p0, p1, p2, p3])
  have r0 : w2.cell? ⟨w.heap.size + 1, 0, none⟩ = some (.int .i64 0) := cell_keep b2 (by simp [go_sem, x0, x1, x2, x3, q0, q1, q2, q3, p0, p1, p2, p3])
  have r1 : w2.cell? ⟨w.heap.size + 1, 1, none⟩ = some (.slice none 0 0) := cell_keep b2 (by simp [go_sem, x0, x1, x2, x3, q0, q1, q2, q3, p0, p1, p2, p3])
  have r2 : w2.cell? ⟨w.heap.size + 1, 2, none⟩ = some (.slice none 0 0) := cell_keep b2 (by simp [go_sem, x0, x1, x2, x3, q0, q1, q2, q3, p0, p1, p2, p3])
  have r3 : w2.cell? ⟨w.heap.size + 1, 3, none⟩ = some (.slice none 0 0) := cell_keep b2 (by simp [go_sem, x0, x1, x2, x3, q0, q1, q2, q3, p0, p1, p2, p3])
  have s0 : w2.cell? ⟨w.heap.size + 2, 0, none⟩ = some (.int .i64 d.idx) := cell_keep b2 (by simp [go_sem, x0, x1, x2, x3, q0, q1, q2, q3, p0, p1, p2, p3])
  have s1 : w2.cell? ⟨w.heap.size + 2, 1, none⟩ = some (.slice a1 d.start.length n1) := cell_keep b2 (by simp [go_sem, x0, x1, x2, x3, q0, q1, q2, q3, p0, p1, p2, p3])
  have s2 : w2.cell? ⟨w.heap.size + 2, 2, none⟩ = some (.slice none 0 0) := cell_keep b2 (by simp [go_sem, x0, x1, x2, x3, q0, q1, q2, q3, p0, p1, p2, p3])
  have s3 : w2.cell? ⟨w.heap.size + 2, 3, none⟩ = some (.slice none 0 0) := cell_keep b2 (by simp [go_sem, x0, x1, x2, x3, q0, q1, q2, q3, p0, p1, p2, p3])
  have t1 : ∀ o, w2.frozen? ⟨w.heap.size + 1, o, none⟩ = false := fun o => by rw [f2 _ _ (by simp; try omega)]; simp [go_sem, qf]
  have t2 : ∀ o, w2.frozen? ⟨w.heap.size + 2, o, none⟩ = false := fun o => by rw [f2 _ _ (by simp; try omega)]; simp [go_sem, pf]
  clear x0 x1 x2 x3 q0 q1 q2 q3 p0 p1 p2 p3 qf pf
  clear c2 f2
  have x0 := y0
  have x1 := y1
  have x2 := y2
  have x3 := y3
  have q0 := r0
  have q1 := r1
  have q2 := r2
  have q3 := r3
  have p0 := s0
  have p1 := s1
  have p2 := s2
  have p3 := s3
  have qf := t1
  have pf := t2
  clear t1 t2 y0 y1 y2 y3 r0 r1 r2 r3 s0 s1 s2 s3
  clear b2 hB1
  go_wp2
  refine bodyPost_ret (v := .agg #[.int .i64 d.idx, .slice a1 d.start.length n1, .slice a2_1 d.log.synced.length n2_1, .slice a2_2 d.log.loose.length n2_2]) ?_ rfl ⟨_, fun b => F1 b ∨ F2 b, rfl, ⟨_, _, _, F1, F2, rfl, balsR.base (base := w.heap.size + 3) (by (repeat (first | refine Rep.set _ ?_ _ (by simp; omega) | refine Rep.set _ ?_ _ (by simp) | refine Rep.alloc _ ?_ _ | assumption))) (by omega), loggR.base (base := w.heap.size + 3) (by (repeat (first | refine Rep.set _ ?_ _ (by simp; omega) | refine Rep.set _ ?_ _ (by simp) | refine Rep.alloc _ ?_ _ | assumption))) (by omega), fun b p q => by have := (l1 b p).2; have := (l2 b q).1; omega, fun b => Iff.rfl⟩, by (repeat (first | refine bset ?_ (by simp; omega) _ | refine bset ?_ (by simp) _ | refine balloc ?_ _ | assumption))⟩
  simp [results, Tryz.results28, go_sem, q0, q1, q2, q3, p0, p1, p2, p3, qf, pf]
set_option maxHeartbeats 1000000 in
theorem szJournal_u (x : Value) (d : Jrn) (left : Int) (w : World) (hx : jrnR.V w x d) (h0 : 0 ≤ left) (h1 : left ≤ 1048576) :
    Calls Tryz.prog 26 #[x, .int .i64 left] w fun e w' => e = .returned (.int .i64 (szLen left (wtJrn d))) ∧ Below w.heap.size w w' := by
  obtain ⟨u1, u2_1, u2_2, rfl, k1, k2⟩ := hx
  go_enter Tryz.func26, Tryz.ntmps26
  go_wp2_with fail
  refine (szBalanceS_u _ d.start left _ (balsR.below k1 (by (repeat (first | exact Below.refl _ _ | assumption | refine Below.drew ?_ | refine balloc ?_ _ | refine bset ?_ (by simp; omega) _ | refine bset ?_ (by simp) _ | refine bstep ?_ (by assumption))))) h0 h1).mono ?_
  rintro e w1 ⟨rfl, b1⟩
  have x0 : w1.cell? ⟨w.heap.size, 0, none⟩ = some (.int .i64 d.idx) := cell_keep b1 (by simp [go_sem])
  have x1 : w1.cell? ⟨w.heap.size, 1, none⟩ = some (u1) := cell_keep b1 (by simp [go_sem])
  have x2 : w1.cell? ⟨w.heap.size, 2, none⟩ = some (u2_1) := cell_keep b1 (by simp [go_sem])
  have x3 : w1.cell? ⟨w.heap.size, 3, none⟩ = some (u2_2) := cell_keep b1 (by simp [go_sem])
  go_wp2_with fail
  · rename_i h
    go_ret
    refine ⟨?_, by (repeat (first | exact Below.refl _ _ | assumption | refine Below.drew ?_ | refine balloc ?_ _ | refine bset ?_ (by simp; omega) _ | refine bset ?_ (by simp) _ | refine bstep ?_ (by assumption)))⟩
    rw [szLen_neg (n := wtBals d.start) (by omega) (wtJrn d) (by unfold wtJrn; omega)]
    rfl
  rename_i h
  refine (szLog_u _ d.log (szLen left (wtBals d.start : Nat)) _ (loggR.below k2 (by (repeat (first | exact Below.refl _ _ | assumption | refine Below.drew ?_ | refine balloc ?_ _ | refine bset ?_ (by simp; omega) _ | refine bset ?_ (by simp) _ | refine bstep ?_ (by assumption))))) (by omega) (by have := szLen_le (n := wtBals d.start) h0; omega)).mono ?_
  rintro e w2 ⟨rfl, b2⟩
  rw [szLen_add (n := wtBals d.start) (by omega)]
  go_wp2
  · rename_i h
    go_ret
    refine ⟨?_, by (repeat (first | exact Below.refl _ _ | assumption | refine Below.drew ?_ | refine balloc ?_ _ | refine bset ?_ (by simp; omega) _ | refine bset ?_ (by simp) _ | refine bstep ?_ (by assumption)))⟩
    rw [szLen_neg (n := wtBals d.start + wtLogg d.log) (by first | omega | (rw [Int.natCast_add]; omega)) (wtJrn d) (by unfold wtJrn; omega)]
    rfl
  rename_i h
  go_ret
  exact ⟨rfl, by (repeat (first | exact Below.refl _ _ | assumption | refine Below.drew ?_ | refine balloc ?_ _ | refine bset ?_ (by simp; omega) _ | refine bset ?_ (by simp) _ | refine bstep ?_ (by assumption)))⟩
set_option maxHeartbeats 1000000 in
theorem eqJournal_u (x y : Value) (d d' : Jrn) (w : World) (hx : jrnR.V w x d) (hy : jrnR.V w y d') :
    Calls Tryz.prog 31 #[x, y] w fun e w' => e = .returned (.bool (decide (d = d'))) ∧ Below w.heap.size w w' := by
  obtain ⟨u1, u2_1, u2_2, rfl, h1, h2⟩ := hx
  obtain ⟨v1, v2_1, v2_2, rfl, k1, k2⟩ := hy
  obtain ⟨idx, start, log⟩ := d
  obtain ⟨idx', start', log'⟩ := d'
  dsimp only at h1 k1 h2 k2
  go_enter Tryz.func31, Tryz.ntmps31
  go_wp2_with fail
  all_goals try (go_ret; exact ⟨by simp_all, by (repeat (first | exact Below.refl _ _ | assumption | refine Below.drew ?_ | refine balloc ?_ _ | refine bset ?_ (by simp; omega) _ | refine bset ?_ (by simp) _ | refine bstep ?_ (by assumption)))⟩)
  refine (eqBalanceS_u _ _ start start' _ (balsR.below h1 (by (repeat (first | exact Below.refl _ _ | assumption | refine Below.drew ?_ | refine balloc ?_ _ | refine bset ?_ (by simp; omega) _ | refine bset ?_ (by simp) _ | refine bstep ?_ (by assumption))))) (balsR.below k1 (by (repeat (first | exact Below.refl _ _ | assumption | refine Below.drew ?_ | refine balloc ?_ _ | refine bset ?_ (by simp; omega) _ | refine bset ?_ (by simp) _ | refine bstep ?_ (by assumption)))))).mono ?_
  rintro e w1 ⟨rfl, b1⟩
  have x0 : w1.cell? ⟨w.heap.size, 0, none⟩ = some (.int .i64 idx) := cell_keep b1 (by simp [go_sem])
  have x1 : w1.cell? ⟨w.heap.size, 1, none⟩ = some (u1) := cell_keep b1 (by simp [go_sem])
  have x2 : w1.cell? ⟨w.heap.size, 2, none⟩ = some (u2_1) := cell_keep b1 (by simp [go_sem])
  have x3 : w1.cell? ⟨w.heap.size, 3, none⟩ = some (u2_2) := cell_keep b1 (by simp [go_sem])
  have y0 : w1.cell? ⟨w.heap.size + 1, 0, none⟩ = some (.int .i64 idx') := cell_keep b1 (by simp [go_sem])
  have y1 : w1.cell? ⟨w.heap.size + 1, 1, none⟩ = some (v1) := cell_keep b1 (by simp [go_sem])
  have y2 : w1.cell? ⟨w.heap.size + 1, 2, none⟩ = some (v2_1) := cell_keep b1 (by simp [go_sem])
  have y3 : w1.cell? ⟨w.heap.size + 1, 3, none⟩ = some (v2_2) := cell_keep b1 (by simp [go_sem])
  go_wp2_with fail
  all_goals try (go_ret; exact ⟨by simp_all, by (repeat (first | exact Below.refl _ _ | assumption | refine Below.drew ?_ | refine balloc ?_ _ | refine bset ?_ (by simp; omega) _ | refine bset ?_ (by simp) _ | refine bstep ?_ (by assumption)))⟩)
  refine (eqLog_u _ _ log log' _ (loggR.below h2 (by (repeat (first | exact Below.refl _ _ | assumption | refine Below.drew ?_ | refine balloc ?_ _ | refine bset ?_ (by simp; omega) _ | refine bset ?_ (by simp) _ | refine bstep ?_ (by assumption))))) (loggR.below k2 (by (repeat (first | exact Below.refl _ _ | assumption | refine Below.drew ?_ | refine balloc ?_ _ | refine bset ?_ (by simp; omega) _ | refine bset ?_ (by simp) _ | refine bstep ?_ (by assumption)))))).mono ?_
  rintro e w2 ⟨rfl, b2⟩
  go_wp2
  all_goals
    go_ret
    exact ⟨by simp_all, by (repeat (first | exact Below.refl _ _ | assumption | refine Below.drew ?_ | refine balloc ?_ _ | refine bset ?_ (by simp; omega) _ | refine bset ?_ (by simp) _ | refine bstep ?_ (by assumption)))⟩
set_option maxHeartbeats 1000000 in
theorem markJournal_u (v : Value) (d : Jrn) (base : Nat) (F : Nat → Prop) (k : Int) (w : World) (ho : jrnR.O w base F v d) (hw : wtJrn d ≤ 1048576) (hn : k + cntJrn d ≤ 1073741824) (hk0 : 0 ≤ k) :
    Calls Tryz.prog 32 #[v, .int .i64 k] w fun r w' => r = .returned (.int .i64 (k + cntJrn d)) ∧ jrnR.O w' base F v (mkJrn k d) ∧ Mod F w w' := by
  obtain ⟨u1, u2_1, u2_2, F1, F2, rfl, h1, h2, s12, hF⟩ := ho
  unfold wtJrn at hw
  unfold cntJrn at hn ⊢
  have HF : Hid (∀ b, F b ↔ (F1 b ∨ F2 b)) := hF
  clear hF
  go_enter Tryz.func32, Tryz.ntmps32
  go_wp2_with fail
  refine (markBalanceS_u _ d.start base F1 k _ (balsR.alloc h1 _) (by omega) (by omega) (by omega)).mono ?_
  rintro e w1 ⟨rfl, r1, m1⟩
  have h2' := loggR.mod (loggR.alloc h2 _) m1 (fun b p q => s12 b q p)
  have x0 : w1.cell? ⟨w.heap.size, 0, none⟩ = some (.int .i64 d.idx) := m1.cell (by simp [go_sem]) (fun hf => by have := balsR.rng h1 _ hf; dsimp only at this; omega)
  have x1 : w1.cell? ⟨w.heap.size, 1, none⟩ = some (u1) := m1.cell (by simp [go_sem]) (fun hf => by have := balsR.rng h1 _ hf; dsimp only at this; omega)
  have x2 : w1.cell? ⟨w.heap.size, 2, none⟩ = some (u2_1) := m1.cell (by simp [go_sem]) (fun hf => by have := balsR.rng h1 _ hf; dsimp only at this; omega)
  have x3 : w1.cell? ⟨w.heap.size, 3, none⟩ = some (u2_2) := m1.cell (by simp [go_sem]) (fun hf => by have := balsR.rng h1 _ hf; dsimp only at this; omega)
  go_wp2_with fail
  refine (markLog_u _ d.log base F2 (k + cntBals d.start) _ h2' (by omega) (by omega) (by omega)).mono ?_
  rintro e w2 ⟨rfl, r2, m2⟩
  replace r1 := balsR.mod r1 m2 (fun b p q => s12 b p q)
  go_wp2
  go_ret
  refine ⟨?_, ⟨_, _, _, F1, F2, rfl, r1, r2, s12, HF.out⟩, (((Mod.refl F w).alloc _).trans (m1.mono (fun b hb => (HF.out b).2 (.inl hb)))).trans (m2.mono (fun b hb => (HF.out b).2 (.inr hb)))⟩
  simp
  try omega
end Go.Proofs.YtecfelacdapdgaaGreat

/-
  EventsOf, the document's.
-/
set_option linter.unusedSimpArgs false
set_option linter.unusedVariables false
namespace Go.Proofs.YtecfelacdapdgaaGreat
open Go.RowKit
set_option linter.unusedSectionVars false
variable [DecidableEq Leg] [Inhabited Leg] [DecidableEq Cont] [Inhabited Cont] [DecidableEq Evt] [Inhabited Evt] [DecidableEq EvtsR] [Inhabited EvtsR] [DecidableEq EvtR] [Inhabited EvtR] [DecidableEq BytesR] [Inhabited BytesR] [DecidableEq ContR] [Inhabited ContR] [DecidableEq Logg] [Inhabited Logg] [DecidableEq LoggR] [Inhabited LoggR] [DecidableEq RecsR] [Inhabited RecsR] [DecidableEq Bal] [Inhabited Bal] [DecidableEq Jrn] [Inhabited Jrn]
attribute [local go_sem ↓] Go.wp_at_zero Go.wp_at_succ

set_option maxRecDepth 20000 in
set_option maxHeartbeats 8000000 in
theorem l14Events_u (x : Value) (d : Logg) (w : World) (hx : loggR.V w x d) (h0 : logF d = 0) :
    Calls Tryz.prog 52 #[x] w fun e w' => ∃ v F, e = .returned (.tuple #[v, .int .i64 (evsR (d.synced ++ d.loose)).code]) ∧ evtsR.O w' w.heap.size F v (evsR (d.synced ++ d.loose)).evts ∧ Below w.heap.size w w' := by
  have hl6 : d.synced.length + d.loose.length ≤ 6000 := by
    rcases logF_cases d with ⟨_, h⟩ | h
    · exact h
    · rw [h0] at h; cases h
  have HS : Hid (∀ W, Below w.heap.size w W → Calls Tryz.prog 83 #[x] W fun e w' => ∃ v F, e = .returned v ∧ loggR.O w' W.heap.size F v ⟨d.synced ++ d.loose, []⟩ ∧ Below W.heap.size W w') := fun W hW => l4Sync_any x d W (loggR.below hx hW) (by unfold wtLogg wtBytes; omega)
  obtain ⟨a1, a2, c1, c2, rfl⟩ := logg_form hx
  have hbl : (d.synced ++ d.loose).length = d.synced.length + d.loose.length := List.length_append
  have HR : Hid (∀ W v, BytesV W v (d.synced ++ d.loose) → Calls Tryz.prog 82 #[v] W fun e w' => ∃ v F, e = .returned (.tuple #[v, .int .i64 (recU (d.synced ++ d.loose))]) ∧ bytessR.O w' W.heap.size F v (recL (d.synced ++ d.loose)) ∧ Below W.heap.size W w') := fun W v hv => l3Records_any v _ W hv (by omega)
  have hrl : recU (d.synced ++ d.loose) ≤ (d.synced ++ d.loose).length := recU_le _
  have hrc := recL_len14 (d.synced ++ d.loose)
  clear hx h0
  generalize hn1 : d.synced.length = n1 at *
  generalize hn2 : d.loose.length = n2 at *
  clear hn1 hn2
  generalize d.synced ++ d.loose = xs at *
  have HB1 : Hid (allE (recL xs) = false ∨ ¬ recU xs = xs.length → evsR xs = ⟨5, []⟩) := evsR_bad
  have HB2 : Hid (allE (recL xs) = true → recU xs = xs.length → ¬ (recL xs).length ≤ 60 → evsR xs = ⟨2, []⟩) := evsR_many
  have HB3 : Hid (allE (recL xs) = true → recU xs = xs.length → (recL xs).length ≤ 60 → evsR xs = ⟨0, evL (recL xs)⟩) := evsR_ok
  generalize evsR xs = Z at *
  generalize hus : recU xs = us at *
  clear hus
  generalize recL xs = rs at *
  have HBL : Hid (xs.length = n1 + n2) := hbl
  have HRL : Hid (us ≤ n1 + n2 ∧ rs.length ≤ n1 + n2) := by show _ ∧ _; omega
  clear hbl hrl hrc
  go_enter Tryz.func52, Tryz.ntmps52
  go_wp2_with fail
  refine (HS.out _ (by (repeat (first | exact Below.refl _ _ | assumption | refine Below.drew ?_ | refine balloc ?_ _ | refine bset ?_ (by simp; omega) _ | refine bset ?_ (by simp) _ | refine bstep ?_ (by assumption))))).mono ?_
  rintro e w1 ⟨v1, F1, rfl, o1, hb1⟩
  obtain ⟨u3, u4, rfl, V3, V4⟩ := loggR.ofO o1
  obtain ⟨a3, c3, rfl⟩ := bytes_form V3
  obtain ⟨a4, c4, rfl⟩ := bytes_form V4
  have hB1 : Below w.heap.size w w1 := bstep (by (repeat (first | exact Below.refl _ _ | assumption | refine Below.drew ?_ | refine balloc ?_ _ | refine bset ?_ (by simp; omega) _ | refine bset ?_ (by simp) _ | refine bstep ?_ (by assumption)))) hb1
  have x0 : w1.cell? ⟨w.heap.size, 0, none⟩ = some (.slice a1 n1 c1) := cell_keep hb1 (by simp [go_sem])
  have x1 : w1.cell? ⟨w.heap.size, 1, none⟩ = some (.slice a2 n2 c2) := cell_keep hb1 (by simp [go_sem])
  have hfd : ∀ w : World, (Instr.field 64 (.agg #[.slice a3 xs.length c3, .slice a4 0 c4]) 0).run Tryz.prog w = .ok (.slice a3 xs.length c3) w := fun _ => by kernel_rfl
  clear hb1 o1 HS V4
  go_wp2_with fail
  refine (HR.out _ _ V3).mono ?_
  rintro e w2 ⟨v2, F2, rfl, o2, hb2⟩
  obtain ⟨ar, cr, rfl, hrc2, hrm, hra⟩ := recs_at (bytessR.ofO o2)
  unfold maxLen at hrm
  have hB2 : Below w.heap.size w w2 := bstep hB1 hb2
  replace x0 := cell_keep hb2 x0
  replace x1 := cell_keep hb2 x1
  have z0 : w.heap.size < w2.heap.size := World.block_lt_of_cell? w2 _ x0
  have HX : Hid (∀ k, k < rs.length → ∃ b o u, ar = some ⟨b, o, none⟩ ∧ w2.cell? ⟨b, o + k, none⟩ = some u ∧ bytesR.V w2 u (rs.getD k default)) := hra
  clear hb2 o2 HR V3 hfd hB1 hra
  have HU : Hid (∀ k, k < rs.length → evL (rs.take (k + 1)) = evL (rs.take k) ++ [(unpE (rs.getD k default)).evt]) := fun k hk => evL_snoc hk
  have HA : Hid ((∀ j, j < rs.length → (unpE (rs.getD j default)).code = 0) → allE rs = true) := allE_of
  have HAn : Hid (∀ k, k < rs.length → ¬ (unpE (rs.getD k default)).code = 0 → allE rs = false) := fun k hk h => allE_at hk h
  have HL0 : Hid (∀ k, k ≤ rs.length → (evL (rs.take k)).length = k) := fun k hk => by show _ = _; rw [evL_len, List.length_take]; omega
  have HT : Hid (evL (rs.take rs.length) = evL rs) := by show _ = _; rw [List.take_length]
  generalize hn : rs.length = n at *
  clear hn
  have hlit := evts_lit w2 w2.heap.size (Nat.le_refl _)
  go_wp2
  go_loopw [6, 7] (fun s i w' => ∃ (k : Nat) (a : Option Addr) (c : Nat) (F : Nat → Prop), k ≤ n ∧ i = .int .i64 k ∧ s = .slice a k c ∧ Hid (evtsR.O w' w2.heap.size F (.slice a k c) (evL (rs.take k))) ∧ Hid (∀ j, j < k → (unpE (rs.getD j default)).code = 0) ∧ Below w2.heap.size w2 w') (fun s i _ => n - (intOf i).toNat)
  case atStart => exact ⟨0, _, 0, _, Nat.zero_le _, rfl, rfl, hlit, fun j hj => absurd hj (Nat.not_lt_zero _), by (repeat (first | exact Below.refl _ _ | assumption | refine Below.drew ?_ | refine balloc ?_ _ | refine bset ?_ (by simp; omega) _ | refine bset ?_ (by simp) _ | refine bstep ?_ (by assumption)))⟩
  case round =>
    clear hlit
    obtain ⟨k, as_, cs_, F, hk, rfl, rfl, HO, HK, hbl⟩ := hrel
    have zr := hbl.size
    have hBr : Below w.heap.size w wr := hB2.trans (hbl.mono (by omega))
    have y0 := cell_keep hbl x0
    have y1 := cell_keep hbl x1
    have zr0 : w.heap.size < wr.heap.size := by omega
    by_cases hlt : k < n
    · obtain ⟨bx, ox, ux, rfl, g0, hV⟩ := HX.out k hlt
      have HUk := HU.out k hlt
      have HAk := HAn.out k hlt
      obtain ⟨r, hr⟩ : ∃ r, r = rs.getD k default := ⟨_, rfl⟩
      rw [← hr] at hV HUk HAk
      have HRk : Hid (r = rs.getD k default) := hr
      have HE : Hid (evL (rs.take (k + 1)) = evL (rs.take k) ++ [(unpE r).evt]) := HUk
      have HAk' : Hid (¬ (unpE r).code = 0 → allE rs = false) := HAk
      clear hr HUk HAk
      have zb : bx < w2.heap.size := World.block_lt_of_cell? w2 _ g0
      replace g0 := cell_keep hbl g0
      have HCp : Hid (∀ W, Below w2.heap.size w2 W → Calls Tryz.prog 46 #[ux] W (UnpE14 W r)) := fun W hW => l14Unpack_u ux r W (bytesR.below hV hW)
      clear hV
      have k1 : (k : Int) < n := by omega
      go_wp2_with fail
      refine (HCp.out _ (by (repeat (first | exact Below.refl _ _ | assumption | refine Below.drew ?_ | refine balloc ?_ _ | refine bset ?_ (by simp; omega) _ | refine bset ?_ (by simp) _ | refine bstep ?_ (by assumption))))).mono ?_
      rintro e w3 ⟨v3, F3, y3, rfl, o3, hy, hb3⟩
      obtain ⟨p, q, rfl⟩ := evtO_form o3
      have hB3 : Below w2.heap.size w2 w3 := hbl.trans (hb3.mono zr)
      have hz3 := hb3.size
      by_cases hc : (unpE r).code = 0
      · have hev : unpE r = ⟨0, y3⟩ := hy hc
        have e1 : decide ((unpE r).code = 0) = true := decide_eq_true hc
        have HE' : Hid (evL (rs.take (k + 1)) = evL (rs.take k) ++ [y3]) := by show _ = _; rw [HE.out, hev]
        have HKn : Hid (∀ j, j < k + 1 → (unpE (rs.getD j default)).code = 0) := fun j hj => by
          by_cases e : j = k
          · rw [e, ← HRk.out]; exact hc
          · exact HK.out j (by omega)
        rw [e1]
        have HO2 : Hid (evtsR.O w3 w2.heap.size F (.slice as_ k cs_) (evL (rs.take k))) := evtsR.keep HO.out hb3
        have HFl : Hid (∀ b, F b → b < wr.heap.size) := fun b hb => (evtsR.rng HO.out b hb).2
        have HF2 : Hid (∀ b, F3 b → wr.heap.size ≤ b) := fun b hb => (evtR.rng o3 b hb).1
        have HU3 : Hid (evtR.O w3 w2.heap.size F3 (.agg #[.bool y3.vote, .int .i64 y3.con.id, .slice p y3.con.legs.length q, .int .i64 y3.out]) y3) := evtR.base o3 zr
        have hlk := HL0.out k hk
        clear hb3 o3 HCp HO g0 e1 hc hev hy HE HK HAk' HRk
        generalize hm : y3.con.legs.length = m at *
        have HM : Hid (y3.con.legs.length = m) := hm
        clear hm
        go_wp2_with (at_builtin; refine wpl_appEv _ rfl _ _ rfl w2.heap.size F F3 _ (evL (rs.take k)) y3 (w3.heap.size + 1) p q rfl rfl ?a1 ?a2 ?a3 ?a4 ?a5 ?a6 ?_)
        case a1 => exact evtsR.alloc (evtsR.alloc HO2.out _) _
        case a2 => rw [HM.out]; exact evtR.alloc (evtR.alloc HU3.out _) _
        case a3 => exact fun b h1 h2 => by have := HFl.out b h1; have := HF2.out b h2; omega
        case a4 => rw [HM.out]; simp [go_sem]
        case a5 => have := HRL.out; rw [hlk]; omega
        case a6 => simp; omega
        intro v4 w4 F4 o4 hb4 _
        rw [← HE'.out] at o4
        obtain ⟨a4', c4', e4⟩ := evts_form (evtsR.ofO o4)
        rw [HL0.out (k + 1) (by omega)] at e4
        subst e4
        have HO4 : Hid (evtsR.O w4 w2.heap.size F4 (.slice a4' (k + 1) c4') (evL (rs.take (k + 1)))) := o4
        have hB4 : Below w2.heap.size w2 w4 := Below.trans (by (repeat (first | exact Below.refl _ _ | assumption | refine Below.drew ?_ | refine balloc ?_ _ | refine bset ?_ (by simp; omega) _ | refine bset ?_ (by simp) _ | refine bstep ?_ (by assumption)))) hb4
        clear o4 hb4 HO2 HU3 HFl HF2 hlk
        go_wp2
        exact ⟨⟨k + 1, a4', c4', F4, by omega, by go_num, rfl, HO4, HKn, hB4⟩, by simp [intOf]; omega⟩
      · have e1 : decide ((unpE r).code = 0) = false := decide_eq_false hc
        have HD : Hid (Z = ⟨5, []⟩) := HB1.out (.inl (HAk'.out hc))
        rw [e1]
        have hBz : Below w.heap.size w w3 := hBr.trans (hb3.mono (by omega))
        clear hb3 o3 HCp HO g0 e1 hc hy HE HK HAk' HRk
        generalize y3.con.legs.length = m at *
        go_wp2
        refine bodyPost_ret (v := .tuple #[.slice none 0 0, .int .i64 5]) (by simp [results, Tryz.results52, go_sem]) rfl ?_
        rw [HD.out]
        have hBz' := fun o => balloc hBz o
        first | exact ⟨_, fun _ => False, rfl, evts_nil _ _, hBz' _⟩ | exact ⟨_, rfl, ⟨fun _ => False, evts_nil _ _⟩, hBz' _⟩
    · have hkn : k = n := by omega
      subst hkn
      have hAl : allE rs = true := HA.out HK.out
      have ho := HO.out
      rw [HT.out] at ho
      have k1 : ¬ (k : Int) < (k : Int) := by omega
      have hw1 : IntKind.i64.wrap ((n1 : Int) + n2) = n1 + n2 := by rw [IntKind.wrap_i64]; omega
      by_cases hu : us = n1 + n2
      · have hlss : ¬ (us : Int) < (n1 : Int) + n2 := by omega
        have hu' : us = xs.length := by rw [HBL.out]; exact hu
        by_cases h60 : k ≤ 60
        · have HD : Hid (Z = ⟨0, evL rs⟩) := HB3.out hAl hu' h60
          have hgt : ¬ (60 : Int) < (k : Int) := by omega
          have HO2 : Hid (evtsR.O wr w.heap.size F (.slice as_ k cs_) (evL rs)) := evtsR.base ho (by omega)
          clear ho HO HX HU HAn HL0 HK HB1 HB2 HB3 HA HT hu hu'
          go_wp2
          refine bodyPost_ret (v := .tuple #[.slice as_ k cs_, .int .i64 0]) (by simp [results, Tryz.results52, go_sem]) rfl ?_
          rw [HD.out]
          first | exact ⟨_, F, rfl, HO2.out, hBr⟩ | exact ⟨_, rfl, ⟨F, HO2.out⟩, hBr⟩
        · have HD : Hid (Z = ⟨2, []⟩) := HB2.out hAl hu' h60
          have hgt : (60 : Int) < (k : Int) := by omega
          clear ho HO HX HU HAn HL0 HK HB1 HB2 HB3 HA HT hu hu'
          go_wp2
          refine bodyPost_ret (v := .tuple #[.slice none 0 0, .int .i64 2]) (by simp [results, Tryz.results52, go_sem]) rfl ?_
          rw [HD.out]
          first | exact ⟨_, fun _ => False, rfl, evts_nil _ _, hBr⟩ | exact ⟨_, rfl, ⟨fun _ => False, evts_nil _ _⟩, hBr⟩
      · have HD : Hid (Z = ⟨5, []⟩) := HB1.out (.inr (by rw [HBL.out]; exact hu))
        have hlss : (us : Int) < (n1 : Int) + n2 := by have := HRL.out; omega
        clear ho HO HX HU HAn HL0 HK HB1 HB2 HB3 HA HT hu
        go_wp2
        refine bodyPost_ret (v := .tuple #[.slice none 0 0, .int .i64 5]) (by simp [results, Tryz.results52, go_sem]) rfl ?_
        rw [HD.out]
        first | exact ⟨_, fun _ => False, rfl, evts_nil _ _, hBr⟩ | exact ⟨_, rfl, ⟨fun _ => False, evts_nil _ _⟩, hBr⟩
end Go.Proofs.YtecfelacdapdgaaGreat

