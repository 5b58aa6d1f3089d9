import Derived.Test.YtncmdeijimgchaaPrnNewShardLaw1
import Derived.Deep.RegionHeld3
import Derived.Deep.DrawnRows
import Derived.Test.YtncmdeijimgchaaPrnNewShardLaw2

/-
  Slices of Mark: the law's own copy, comparison, count, marks. (Written by program after my texts on legs.)
-/
namespace Go.Proofs.Ytncmdeijimgchaa
open Go.RowKit
set_option linter.unusedSectionVars false
attribute [local go_sem ↓] Go.wp_at_zero Go.wp_at_succ

structure Mrk where
  con : Int
  val : Int
variable [DecidableEq Mrk] [Inhabited Mrk]

def mrkV (x : Mrk) : Value := .agg #[.int .i64 x.con, .int .i64 x.val]
set_option maxHeartbeats 400000 in
theorem eqMark_any (x y : Mrk) (w : World) :
    Calls Try.prog 148 #[mrkV x, mrkV y] w fun e w' => e = .returned (.bool (decide (x = y))) ∧ Below w.heap.size w w' := by
  obtain ⟨a, b⟩ := x
  obtain ⟨a', b'⟩ := y
  unfold mrkV
  go_enter Try.func148, Try.ntmps148
  go_wp2
  all_goals
    go_ret
    exact ⟨by simp_all, balloc (balloc (Below.refl _ _) _) _⟩
def mrkCells (w : World) (b o : Nat) (x : Mrk) : Prop := w.cell? ⟨b, o, none⟩ = some (.int .i64 x.con) ∧ w.cell? ⟨b, o + 1, none⟩ = some (.int .i64 x.val)
def MrksV (w : World) (v : Value) (xs : List Mrk) : Prop :=
  ∃ a cap, v = .slice a xs.length cap ∧ xs.length ≤ cap ∧ cap ≤ maxLen ∧ ∀ i, i < xs.length → ∃ b o, a = some ⟨b, o, none⟩ ∧ mrkCells w b (o + i * 2) (xs.getD i default)
theorem mrkCells_below {w w' : World} {b o : Nat} {x : Mrk} (hb : Below w.heap.size w w') (h : mrkCells w b o x) : mrkCells w' b o x := by
  obtain ⟨h0, h1⟩ := h
  exact ⟨cell_keep hb h0, cell_keep hb h1⟩
theorem MrksV_below {w w' : World} {v : Value} {xs : List Mrk} (h : MrksV w v xs) (hb : Below w.heap.size w w') : MrksV w' v xs := by
  obtain ⟨a, cap, rfl, h1, h2, h3⟩ := h
  exact ⟨a, cap, rfl, h1, h2, fun i hi => by
    obtain ⟨b, o, ha, hc⟩ := h3 i hi
    exact ⟨b, o, ha, mrkCells_below hb hc⟩⟩
theorem mrkKeep2 {w w' : World} {b o b' o' : Nat} {x y : Mrk} (hb : Below w.heap.size w w') (h : mrkCells w b o x) (h' : mrkCells w b' o' y) :
    Below w.heap.size w w' ∧ (w'.cell? ⟨b, o, none⟩ = some (.int .i64 x.con) ∧ w'.cell? ⟨b, o + 1, none⟩ = some (.int .i64 x.val)) ∧ (w'.cell? ⟨b', o', none⟩ = some (.int .i64 y.con) ∧ w'.cell? ⟨b', o' + 1, none⟩ = some (.int .i64 y.val)) :=
  ⟨hb, mrkCells_below hb h, mrkCells_below hb h'⟩
theorem mrks_eq_of {xs ys : List Mrk} (hl : ys.length = xs.length) (h : ∀ j, j < xs.length → xs.getD j default = ys.getD j default) : xs = ys := by
  apply List.ext_getElem (by omega)
  intro i h1 h2
  have := h i h1
  simpa [List.getD, h1, h2] using this
set_option maxHeartbeats 1000000 in
theorem eqMarkS_any (x y : Value) (xs ys : List Mrk) (w : World) (hx : MrksV w x xs) (hy : MrksV w y ys) :
    Calls Try.prog 117 #[x, y] w fun e w' => e = .returned (.bool (decide (xs = ys))) ∧ Below w.heap.size w w' := by
  obtain ⟨ax, cx, rfl, hcx, hmx, hx⟩ := hx
  obtain ⟨ay, cy, rfl, hcy, hmy, hy⟩ := hy
  unfold maxLen at hmx hmy
  by_cases hl : ys.length = xs.length
  · rw [hl] at hcy hy ⊢
    have HL : Hid (ys.length = xs.length) := hl
    clear hl
    generalize hn : xs.length = n at *
    have HN : Hid (xs.length = n) := hn
    clear hn
    go_enter Try.func117, Try.ntmps117
    go_wp2
    go_loopw [5] (fun i w' => ∃ k : Nat, k ≤ n ∧ i = .int .i64 k ∧ (∀ j, j < k → xs.getD j default = ys.getD j default) ∧ Below w.heap.size w w') (fun i _ => n - (intOf i).toNat)
    case atStart => exact ⟨0, Nat.zero_le _, rfl, fun j h => absurd h (Nat.not_lt_zero _), Below.refl _ _⟩
    case round =>
      obtain ⟨k, hk, rfl, hpre, hbl⟩ := hrel
      have HP : Hid (∀ j, j < k → xs.getD j default = ys.getD j default) := hpre
      clear hpre
      by_cases hlt : k < n
      · obtain ⟨bx, ox, rfl, h1⟩ := hx k hlt
        obtain ⟨b2, oy, rfl, h2⟩ := hy k hlt
        obtain ⟨l1, hl1⟩ : ∃ l, l = xs.getD k default := ⟨_, rfl⟩
        obtain ⟨l2, hl2⟩ : ∃ l, l = ys.getD k default := ⟨_, rfl⟩
        rw [← hl1] at h1
        rw [← hl2] at h2
        have H1 : Hid (l1 = xs.getD k default) := hl1
        have H2 : Hid (l2 = ys.getD k default) := hl2
        clear hl1 hl2 hx hy
        go_wp2
        go_region_held3 (fun w' => Below w.heap.size w w' ∧ (w'.cell? ⟨bx, ox + k * 2, none⟩ = some (.int .i64 l1.con) ∧ w'.cell? ⟨bx, ox + k * 2 + 1, none⟩ = some (.int .i64 l1.val)) ∧ (w'.cell? ⟨b2, oy + k * 2, none⟩ = some (.int .i64 l2.con) ∧ w'.cell? ⟨b2, oy + k * 2 + 1, none⟩ = some (.int .i64 l2.val))) ((refine mrkKeep2 ?_ h1 h2; repeat (first | exact Below.refl _ _ | assumption | refine Below.drew ?_ | refine balloc ?_ _ | refine bstep ?_ (by assumption)))) (first | (go_at_call 148; refine (eqMark_any l1 l2 _).mono ?_; rintro e w' ⟨rfl, hb1⟩))
        rename_i hH
        have hB := hH.1
        clear hH
        go_wp2
        · rename_i hle
          go_ret
          refine ⟨?_, hB⟩
          have : ¬ xs = ys := fun h => by
            have : l1 = l2 := by rw [H1.out, H2.out, h]
            simp [this] at hle
          simp [this]
        · rename_i hle
          refine ⟨⟨k + 1, by omega, by go_num, fun j hj => ?_, hB⟩, by simp [intOf]; omega⟩
          by_cases hjk : j < k
          · exact HP.out j hjk
          · have : j = k := by omega
            subst this
            rw [← H1.out, ← H2.out]
            simpa using hle
      · go_wp2
        go_ret
        have : k = n := by omega
        subst this
        refine ⟨?_, hbl⟩
        have : xs = ys := mrks_eq_of (by rw [HL.out, HN.out]) (by rw [HN.out]; exact HP.out)
        simp [this]
  · go_enter Try.func117, Try.ntmps117
    have hl' : ((xs.length : Int) == (ys.length : Int)) = false := by simp; omega
    go_wp2
    go_ret
    have : ¬ xs = ys := fun h => hl (by rw [h])
    exact ⟨by simp [this], Below.refl _ _⟩
def mrkC (x : Mrk) : List Value := [.int .i64 x.con, .int .i64 x.val]
def mrksC (xs : List Mrk) : List Value := xs.flatMap mrkC
theorem infoMrk : (Try.prog.info? 193).map (fun i => (i.zero, i.size, i.bytes)) = some (some (.agg #[.int .i64 0, .int .i64 0]), 2, 16) := by kernel_rfl
theorem length_mrksC (xs : List Mrk) : (mrksC xs).length = xs.length * 2 := by
  induction xs with
  | nil => rfl
  | cons x r ih =>
    have e : mrksC (x :: r) = mrkC x ++ mrksC r := by simp [mrksC]
    have l4 : (mrkC x).length = 2 := rfl
    rw [e, List.length_append, l4, ih, List.length_cons]
    omega
theorem get_mrksC (xs : List Mrk) : ∀ i, i < xs.length → (mrksC xs)[i * 2]? = some (.int .i64 (xs.getD i default).con) ∧ (mrksC xs)[i * 2 + 1]? = some (.int .i64 (xs.getD i default).val) := by
  induction xs with
  | nil => intro i h; simp at h
  | cons x r ih =>
    intro i h
    cases i with
    | zero => simp [mrksC, mrkC]
    | succ i =>
      have := ih i (by simpa using h)
      have e : mrksC (x :: r) = mrkC x ++ mrksC r := by simp [mrksC]
      have l4 : (mrkC x).length = 2 := rfl
      rw [e]
      refine ⟨?_, ?_⟩
      all_goals rw [List.getElem?_append_right (by omega), l4]
      · rw [show (i + 1) * 2 - 2 = i * 2 by omega]; simpa using this.1
      · rw [show (i + 1) * 2 + 1 - 2 = i * 2 + 1 by omega]; simpa using this.2
theorem MrksV_of_owns {w : World} {base e : Nat} {v : Value} {xs : List Mrk} (h : w.ownsRow base e 2 v xs.length (mrksC xs)) : MrksV w v xs := by
  rcases h.2 with ⟨rfl, hn⟩ | ⟨g, cap, cur, rfl, hb, hg, hnc, hcm, hcs, htake⟩
  · exact ⟨none, 0, by rw [hn], by omega, by unfold maxLen; omega, fun i hi => by omega⟩
  · refine ⟨some ⟨g, 0, none⟩, cap, rfl, hnc, hcm, fun i hi => ⟨g, 0, rfl, ?_⟩⟩
    obtain ⟨h0, h1⟩ := get_mrksC xs i hi
    simp only [Nat.zero_add, mrkCells]
    exact ⟨(h.cellAt _ (by omega)).trans h0, (h.cellAt _ (by omega)).trans h1⟩
def mrkUpto (k : Nat) (cs : List Value) (xs : List Mrk) : Prop := ∀ j, j < k * 2 → cs[j]? = (mrksC xs)[j]?
theorem mrkUpto_full {n : Nat} {cs : List Value} {xs : List Mrk} (h : mrkUpto n cs xs) (hl : cs.length = n * 2) (hn : xs.length = n) : cs = mrksC xs := by
  apply List.ext_getElem?
  intro j
  by_cases hj : j < n * 2
  · exact h j hj
  · rw [List.getElem?_eq_none (by omega), List.getElem?_eq_none (by rw [length_mrksC]; omega)]
theorem mrkUpto_set {k : Nat} {cs : List Value} {xs : List Mrk} {x : Mrk} (h : mrkUpto k cs xs) (hk : k < xs.length) (hl : cs.length = xs.length * 2) (he : x = xs.getD k default) :
    mrkUpto (k + 1) ((cs.set (k * 2) (.int .i64 x.con)).set (k * 2 + 1) (.int .i64 x.val)) xs := by
  intro j hj
  obtain ⟨h0, h1⟩ := get_mrksC xs k hk
  subst he
  simp only [List.getElem?_set, List.length_set]
  by_cases e1 : k * 2 + 1 = j
  · subst e1; simp [h1]; omega
  by_cases e0 : k * 2 = j
  · subst e0; simp [h0]; omega
  simp [e0, e1]
  exact h j (by omega)
def mrkMark (k : Int) (i : Nat) : Mrk := ⟨k + 2 * i, k + 2 * i + 1⟩
def mrkMarks (k : Int) (n : Nat) : List Mrk := (List.range n).map (mrkMark k)
theorem length_mrkMarks (k : Int) (n : Nat) : (mrkMarks k n).length = n := by simp [mrkMarks]
theorem getD_mrkMarks (k : Int) (n i : Nat) (h : i < n) : (mrkMarks k n).getD i default = mrkMark k i := by simp [mrkMarks, List.getD, h]
set_option maxHeartbeats 1000000 in
theorem markMarkS_any (v : Value) (n : Nat) (cs : List Value) (base e : Nat) (k : Int) (w : World) (ho : w.ownsRow base e 2 v n cs) (hn : n ≤ 1048576) (hk0 : 0 ≤ k) (hk1 : k ≤ 1073741824) :
    Calls Try.prog 120 #[v, .int .i64 k] w fun r w' => r = .returned (.int .i64 (k + 2 * n)) ∧ w'.ownsRow base e 2 v n (mrksC (mrkMarks k n)) ∧ w.grownBy w' v.ownBlock := by
  rcases ho.2 with ⟨rfl, rfl⟩ | ⟨g, cap, cur, rfl, hb, hg, hnc, hcm, _, _⟩
  · go_enter Try.func120, Try.ntmps120
    go_wp2
    go_loopw [1, 5] (fun q i w' => q = .int .i64 k ∧ i = .int .i64 0 ∧ w' = w) (fun _ _ _ => 0)
    case atStart => exact ⟨rfl, rfl, rfl⟩
    case round =>
      obtain ⟨rfl, rfl, rfl⟩ := hrel
      go_wp2
      go_ret
      exact ⟨by simp, World.ownsRow_nil _ _ _ _, ⟨rfl, rfl, rfl, Nat.le_refl _, fun _ _ _ => rfl⟩⟩
  · unfold maxLen at hcm
    go_enter Try.func120, Try.ntmps120
    go_wp2
    go_loopw [1, 5] (fun q i w' => ∃ (j : Nat) (cs' : List Value), j ≤ n ∧ i = .int .i64 j ∧ q = .int .i64 (k + 2 * j) ∧ w'.ownsRow base e 2 (.slice (some ⟨g, 0, none⟩) n cap) n cs' ∧ mrkUpto j cs' (mrkMarks k n) ∧ w.grownBy w' (some g)) (fun _ i _ => n - (intOf i).toNat)
    case atStart => exact ⟨0, cs, Nat.zero_le _, rfl, by simp, ho, fun j h => by omega, ⟨rfl, rfl, rfl, Nat.le_refl _, fun _ _ _ => rfl⟩⟩
    case round =>
      obtain ⟨j, cs', hj, rfl, rfl, ho1, hup, hgr⟩ := hrel
      have HU : Hid (mrkUpto j cs' (mrkMarks k n)) := hup
      clear hup ho hg
      by_cases hlt : j < n
      · obtain ⟨u0, g0⟩ := owns_some ho1 (j * 2) (by omega)
        obtain ⟨u1, g1⟩ := owns_some ho1 (j * 2 + 1) (by omega)
        have hf := fun j => ho1.frozenAt j
        go_wp2
        have s0 := ho1.stored (j * 2) (.int .i64 (k + 2 * j))
        have s1 := s0.1.stored (j * 2 + 1) (.int .i64 (k + 2 * j + 1))
        refine ⟨⟨j + 1, _, by omega, by go_num, ?_, s1.1, mrkUpto_set (x := mrkMark k j) HU.out (by rw [length_mrkMarks]; exact hlt) (by rw [length_mrkMarks]; exact ho1.1) (getD_mrkMarks k n j hlt).symm, grownTrans (grownTrans (hgr) s0.2) s1.2⟩, by simp [intOf]; omega⟩
        congr 1
        omega
      · go_wp2
        go_ret
        have hjn : j = n := by omega
        subst hjn
        have e' := mrkUpto_full HU.out ho1.1 (length_mrkMarks k j)
        rw [e'] at ho1
        exact ⟨rfl, ho1, hgr⟩
set_option maxHeartbeats 1000000 in
theorem heldMarkS_any (v : Value) (n : Nat) (k : Int) (w : World) (hv : MrksV w v (mrkMarks k n)) (hn : n ≤ 1048576) (hk0 : 0 ≤ k) (hk1 : k ≤ 1073741824) :
    Calls Try.prog 124 #[v, .int .i64 k] w fun r w' => r = .returned (.int .i64 (k + 2 * n)) ∧ w' = w := by
  obtain ⟨a, cap, rfl, hnc, hcm, hc⟩ := hv
  rw [length_mrkMarks] at hnc hc ⊢
  unfold maxLen at hcm
  go_enter Try.func124, Try.ntmps124
  go_wp2
  go_loopw [1, 5] (fun q i w' => ∃ j : Nat, j ≤ n ∧ i = .int .i64 j ∧ q = .int .i64 (k + 2 * j) ∧ w' = w) (fun _ i _ => n - (intOf i).toNat)
  case atStart => exact ⟨0, Nat.zero_le _, rfl, by simp, rfl⟩
  case round =>
    obtain ⟨j, hj, rfl, rfl, rfl⟩ := hrel
    by_cases hlt : j < n
    · obtain ⟨b, o, rfl, h1⟩ := hc j hlt
      rw [getD_mrkMarks k n j hlt] at h1
      obtain ⟨g0, g1⟩ := h1
      simp only [mrkMark] at g0 g1
      clear hc
      go_wp2
      refine ⟨⟨j + 1, by omega, by go_num, ?_, trivial⟩, by simp [intOf]; omega⟩
      congr 1
      omega
    · go_wp2
      go_ret
      have hjn : j = n := by omega
      subst hjn
      exact ⟨rfl, rfl⟩
end Go.Proofs.Ytncmdeijimgchaa

/-
  Rows of impl.Mark: the uniform forms. (Written by program: nest.py.)
-/
namespace Go.Proofs.Ytncmdeijimgchaa
open Go.RowKit
set_option linter.unusedSectionVars false
variable [DecidableEq Mrk] [Inhabited Mrk]
attribute [local go_sem ↓] Go.wp_at_zero Go.wp_at_succ

def mrksR : Rep (List Mrk) := fRep 193 2 mrksC MrksV MrksV_below MrksV_of_owns
def wtMrks (xs : List Mrk) : Nat := xs.length
def cntMrks (xs : List Mrk) : Nat := 2 * xs.length
def mkMrks (k : Int) (xs : List Mrk) : List Mrk := mrkMarks k xs.length
theorem mrks_form {w : World} {v : Value} {xs : List Mrk} (h : mrksR.V w v xs) : ∃ a c, v = .slice a xs.length c := by
  obtain ⟨a, c, rfl, _⟩ := h
  exact ⟨_, _, rfl⟩
theorem mrks_cnt (d : List Mrk) : cntMrks d ≤ 2 * wtMrks d := by unfold cntMrks wtMrks; omega
theorem eqMarkS_u (x y : Value) (d d' : List Mrk) (w : World) (hx : mrksR.V w x d) (hy : mrksR.V w y d') :
    Calls Try.prog 117 #[x, y] w fun e w' => e = .returned (.bool (decide (d = d'))) ∧ Below w.heap.size w w' := eqMarkS_any x y d d' w hx hy
theorem markMarkS_u (v : Value) (d : List Mrk) (base : Nat) (F : Nat → Prop) (k : Int) (w : World) (ho : mrksR.O w base F v d) (hw : wtMrks d ≤ 1048576) (hn : k + cntMrks d ≤ 1073741824) (hk0 : 0 ≤ k) :
    Calls Try.prog 120 #[v, .int .i64 k] w fun r w' => r = .returned (.int .i64 (k + cntMrks d)) ∧ mrksR.O w' base F v (mkMrks k d) ∧ Mod F w w' := by
  refine (markMarkS_any v d.length _ base _ k w ho.1 hw hk0 (by omega)).mono ?_
  rintro e w' ⟨rfl, h1, h2⟩
  refine ⟨by simp [cntMrks], ⟨?_, ho.2⟩, by rw [ho.2]; exact Mod.of_grown h2⟩
  unfold mkMrks
  rw [length_mrkMarks]
  exact h1
theorem heldMarkS_u (v : Value) (d : List Mrk) (k : Int) (w : World) (hv : mrksR.V w v (mkMrks k d)) (hw : wtMrks d ≤ 1048576) (hn : k + cntMrks d ≤ 1073741824) (hk0 : 0 ≤ k) :
    Calls Try.prog 124 #[v, .int .i64 k] w fun r w' => r = .returned (.int .i64 (k + cntMrks d)) ∧ Below w.heap.size w w' := by
  refine (heldMarkS_any v d.length k w hv hw hk0 (by omega)).mono ?_
  rintro e w' ⟨rfl, rfl⟩
  exact ⟨by simp [cntMrks], Below.refl _ _⟩
end Go.Proofs.Ytncmdeijimgchaa

/-
  Rows of numbers: compared, marked and read back; and the answers that hold one.
-/
namespace Go.Proofs.Ytncmdeijimgchaa
open Go.RowKit
set_option linter.unusedSectionVars false
variable [DecidableEq Leg] [Inhabited Leg]
attribute [local go_sem ↓] Go.wp_at_zero Go.wp_at_succ

def intsC (ys : List Int) : List Value := ys.map (Value.int .i64)
theorem infoInt : (Try.prog.info? 2).map (fun i => (i.zero, i.size, i.bytes)) = some (some (.int .i64 0), 1, 8) := by kernel_rfl
def IntsV (w : World) (v : Value) (ys : List Int) : Prop :=
  ∃ a cap, v = .slice a ys.length cap ∧ ys.length ≤ cap ∧ cap ≤ maxLen ∧ ∀ i, i < ys.length → ∃ b o, a = some ⟨b, o, none⟩ ∧ w.cell? ⟨b, o + i, none⟩ = some (.int .i64 (ys.getD i 0))
theorem IntsV_below {w w' : World} {v : Value} {ys : List Int} (h : IntsV w v ys) (hb : Below w.heap.size w w') : IntsV w' v ys := by
  obtain ⟨a, cap, rfl, h1, h2, h3⟩ := h
  exact ⟨a, cap, rfl, h1, h2, fun i hi => by
    obtain ⟨b, o, ha, hc⟩ := h3 i hi
    exact ⟨b, o, ha, cell_keep hb hc⟩⟩
theorem IntsV_of_owns {w : World} {base e : Nat} {v : Value} {ys : List Int} (h : w.ownsRow base e 1 v ys.length (intsC ys)) : IntsV w v ys := by
  rcases h.2 with ⟨rfl, hn⟩ | ⟨g, cap, cur, rfl, hb, hg, hnc, hcm, hcs, htake⟩
  · exact ⟨none, 0, by rw [hn], by omega, by unfold maxLen; omega, fun i hi => by omega⟩
  · refine ⟨some ⟨g, 0, none⟩, cap, rfl, hnc, hcm, fun i hi => ⟨g, 0, rfl, ?_⟩⟩
    rw [Nat.zero_add]
    refine (h.cellAt i (by omega)).trans ?_
    simp [intsC, List.getD, hi]
theorem ints_eq_of {xs ys : List Int} (hl : ys.length = xs.length) (h : ∀ j, j < xs.length → xs.getD j 0 = ys.getD j 0) : xs = ys := by
  apply List.ext_getElem (by omega)
  intro i h1 h2
  have := h i h1
  simpa [List.getD, h1, h2] using this
set_option maxHeartbeats 1000000 in
theorem eqInt64S_any (x y : Value) (xs ys : List Int) (w : World) (hx : IntsV w x xs) (hy : IntsV w y ys) :
    Calls Try.prog 119 #[x, y] w fun e w' => e = .returned (.bool (decide (xs = ys))) ∧ Below w.heap.size w w' := by
  obtain ⟨ax, cx, rfl, hcx, hmx, hx⟩ := hx
  obtain ⟨ay, cy, rfl, hcy, hmy, hy⟩ := hy
  unfold maxLen at hmx hmy
  by_cases hl : ys.length = xs.length
  · rw [hl] at hcy hy ⊢
    have HL : Hid (ys.length = xs.length) := hl
    clear hl
    generalize hn : xs.length = n at *
    have HN : Hid (xs.length = n) := hn
    clear hn
    go_enter Try.func119, Try.ntmps119
    go_wp2
    go_loopw [5] (fun i w' => ∃ k : Nat, k ≤ n ∧ i = .int .i64 k ∧ (∀ j, j < k → xs.getD j 0 = ys.getD j 0) ∧ Below w.heap.size w w') (fun i _ => n - (intOf i).toNat)
    case atStart => exact ⟨0, Nat.zero_le _, rfl, fun j h => absurd h (Nat.not_lt_zero _), Below.refl _ _⟩
    case round =>
      obtain ⟨k, hk, rfl, hpre, hbl⟩ := hrel
      have HP : Hid (∀ j, j < k → xs.getD j 0 = ys.getD j 0) := hpre
      clear hpre
      by_cases hlt : k < n
      · obtain ⟨bx, ox, rfl, h1⟩ := hx k hlt
        obtain ⟨b2, oy, rfl, h2⟩ := hy k hlt
        obtain ⟨l1, hl1⟩ : ∃ l, l = xs.getD k 0 := ⟨_, rfl⟩
        obtain ⟨l2, hl2⟩ : ∃ l, l = ys.getD k 0 := ⟨_, rfl⟩
        rw [← hl1] at h1
        rw [← hl2] at h2
        have H1 : Hid (l1 = xs.getD k 0) := hl1
        have H2 : Hid (l2 = ys.getD k 0) := hl2
        clear hl1 hl2 hx hy
        go_wp2
        go_region_held3 (fun w' => Below w.heap.size w w' ∧ w'.cell? ⟨bx, ox + k, none⟩ = some (.int .i64 l1) ∧ w'.cell? ⟨b2, oy + k, none⟩ = some (.int .i64 l2)) ((refine keepC2 ?_ h1 h2; repeat (first | exact Below.refl _ _ | assumption | refine Below.drew ?_ | refine balloc ?_ _ | refine bstep ?_ (by assumption)))) (fail)
        rename_i hH
        have hB := hH.1
        clear hH
        go_wp2
        · rename_i hle
          go_ret
          refine ⟨?_, hB⟩
          have : ¬ xs = ys := fun h => by
            have : l1 = l2 := by rw [H1.out, H2.out, h]
            simp [this] at hle
          simp [this]
        · rename_i hle
          refine ⟨⟨k + 1, by omega, by go_num, fun j hj => ?_, hB⟩, by simp [intOf]; omega⟩
          by_cases hjk : j < k
          · exact HP.out j hjk
          · have : j = k := by omega
            subst this
            rw [← H1.out, ← H2.out]
            simpa using hle
      · go_wp2
        go_ret
        have : k = n := by omega
        subst this
        refine ⟨?_, hbl⟩
        have : xs = ys := ints_eq_of (by rw [HL.out, HN.out]) (by rw [HN.out]; exact HP.out)
        simp [this]
  · go_enter Try.func119, Try.ntmps119
    have hl' : ((xs.length : Int) == (ys.length : Int)) = false := by simp; omega
    go_wp2
    go_ret
    have : ¬ xs = ys := fun h => hl (by rw [h])
    exact ⟨by simp [this], Below.refl _ _⟩
def marksI (k : Int) (n : Nat) : List Int := (List.range n).map (fun i : Nat => k + (i : Int))
theorem length_marksI (k : Int) (n : Nat) : (marksI k n).length = n := by simp [marksI]
theorem getD_marksI (k : Int) (n i : Nat) (h : i < n) : (marksI k n).getD i 0 = k + i := by simp [marksI, List.getD, h]
def uptoI (k : Nat) (cs : List Value) (ys : List Int) : Prop := ∀ j, j < k → cs[j]? = (intsC ys)[j]?
theorem uptoI_full {n : Nat} {cs : List Value} {ys : List Int} (h : uptoI n cs ys) (hl : cs.length = n * 1) (hn : ys.length = n) : cs = intsC ys := by
  apply List.ext_getElem?
  intro j
  by_cases hj : j < n
  · exact h j hj
  · rw [List.getElem?_eq_none (by omega), List.getElem?_eq_none (by simp [intsC]; omega)]
theorem uptoI_set {k : Nat} {cs : List Value} {ys : List Int} {l : Int} (h : uptoI k cs ys) (hk : k < ys.length) (hl : cs.length = ys.length * 1) (he : l = ys.getD k 0) : uptoI (k + 1) (cs.set k (.int .i64 l)) ys := by
  intro j hj
  rw [List.getElem?_set]
  by_cases e : k = j
  · subst e
    rw [if_pos rfl, if_pos (by omega)]
    simp [intsC, he, List.getD, hk]
  · rw [if_neg e]
    exact h j (by omega)
set_option maxHeartbeats 1000000 in
theorem markInt64S_any (v : Value) (n : Nat) (cs : List Value) (base e : Nat) (k : Int) (w : World) (ho : w.ownsRow base e 1 v n cs) (hn : n ≤ 1048576) (hk0 : 0 ≤ k) (hk1 : k ≤ 1073741824) :
    Calls Try.prog 122 #[v, .int .i64 k] w fun r w' => r = .returned (.int .i64 (k + n)) ∧ w'.ownsRow base e 1 v n (intsC (marksI k n)) ∧ w.grownBy w' v.ownBlock := by
  rcases ho.2 with ⟨rfl, rfl⟩ | ⟨g, cap, cur, rfl, hb, hg, hnc, hcm, _, _⟩
  · go_enter Try.func122, Try.ntmps122
    go_wp2
    go_loopw [1, 5] (fun q i w' => q = .int .i64 k ∧ i = .int .i64 0 ∧ w' = w) (fun _ _ _ => 0)
    case atStart => exact ⟨rfl, rfl, rfl⟩
    case round =>
      obtain ⟨rfl, rfl, rfl⟩ := hrel
      go_wp2
      go_ret
      exact ⟨by simp, World.ownsRow_nil _ _ _ _, grown_refl _ _⟩
  · unfold maxLen at hcm
    go_enter Try.func122, Try.ntmps122
    go_wp2
    go_loopw [1, 5] (fun q i w' => ∃ (j : Nat) (cs' : List Value), j ≤ n ∧ i = .int .i64 j ∧ q = .int .i64 (k + j) ∧ w'.ownsRow base e 1 (.slice (some ⟨g, 0, none⟩) n cap) n cs' ∧ uptoI j cs' (marksI k n) ∧ w.grownBy w' (some g)) (fun _ i _ => n - (intOf i).toNat)
    case atStart => exact ⟨0, cs, Nat.zero_le _, rfl, by simp, ho, fun j h => by omega, grown_refl _ _⟩
    case round =>
      obtain ⟨j, cs', hj, rfl, rfl, ho1, hup, hgr⟩ := hrel
      have HU : Hid (uptoI j cs' (marksI k n)) := hup
      clear hup ho hg
      by_cases hlt : j < n
      · obtain ⟨u0, g0⟩ := owns_some ho1 j (by omega)
        have hf := fun j => ho1.frozenAt j
        go_wp2
        have s0 := ho1.stored j (.int .i64 (k + j))
        refine ⟨⟨j + 1, _, by omega, by go_num, ?_, s0.1, uptoI_set HU.out (by rw [length_marksI]; exact hlt) (by rw [length_marksI]; exact ho1.1) (getD_marksI k n j hlt).symm, grown_trans hgr s0.2⟩, by simp [intOf]; omega⟩
        congr 1
        omega
      · go_wp2
        go_ret
        have hjn : j = n := by omega
        subst hjn
        have e' := uptoI_full HU.out ho1.1 (length_marksI k j)
        rw [e'] at ho1
        exact ⟨rfl, ho1, hgr⟩
set_option maxHeartbeats 1000000 in
theorem heldInt64S_any (v : Value) (n : Nat) (k : Int) (w : World) (hv : IntsV w v (marksI k n)) (hn : n ≤ 1048576) (hk0 : 0 ≤ k) (hk1 : k ≤ 1073741824) :
    Calls Try.prog 126 #[v, .int .i64 k] w fun r w' => r = .returned (.int .i64 (k + n)) ∧ w' = w := by
  obtain ⟨a, cap, rfl, hnc, hcm, hc⟩ := hv
  rw [length_marksI] at hnc hc ⊢
  unfold maxLen at hcm
  go_enter Try.func126, Try.ntmps126
  go_wp2
  go_loopw [1, 5] (fun q i w' => ∃ j : Nat, j ≤ n ∧ i = .int .i64 j ∧ q = .int .i64 (k + j) ∧ w' = w) (fun _ i _ => n - (intOf i).toNat)
  case atStart => exact ⟨0, Nat.zero_le _, rfl, by simp, rfl⟩
  case round =>
    obtain ⟨j, hj, rfl, rfl, rfl⟩ := hrel
    by_cases hlt : j < n
    · obtain ⟨b, o, rfl, h1⟩ := hc j hlt
      rw [getD_marksI k n j hlt] at h1
      clear hc
      go_wp2
      refine ⟨⟨j + 1, by omega, by go_num, ?_, trivial⟩, by simp [intOf]; omega⟩
      congr 1
      omega
    · go_wp2
      go_ret
      have hjn : j = n := by omega
      subst hjn
      exact ⟨rfl, rfl⟩
end Go.Proofs.Ytncmdeijimgchaa

/-
  Rows of int64: the uniform forms. (Written by program: nest.py.)
-/
namespace Go.Proofs.Ytncmdeijimgchaa
open Go.RowKit
set_option linter.unusedSectionVars false
variable [DecidableEq Leg] [Inhabited Leg]
attribute [local go_sem ↓] Go.wp_at_zero Go.wp_at_succ

def intsR : Rep (List Int) := fRep 2 1 intsC IntsV IntsV_below IntsV_of_owns
def wtInts (xs : List Int) : Nat := xs.length
def cntInts (xs : List Int) : Nat := xs.length
def mkInts (k : Int) (xs : List Int) : List Int := marksI k xs.length
theorem ints_form {w : World} {v : Value} {xs : List Int} (h : intsR.V w v xs) : ∃ a c, v = .slice a xs.length c := by
  obtain ⟨a, c, rfl, _⟩ := h
  exact ⟨_, _, rfl⟩
theorem ints_cnt (d : List Int) : cntInts d ≤ 1 * wtInts d := by unfold cntInts wtInts; omega
theorem eqInt64S_u (x y : Value) (d d' : List Int) (w : World) (hx : intsR.V w x d) (hy : intsR.V w y d') :
    Calls Try.prog 119 #[x, y] w fun e w' => e = .returned (.bool (decide (d = d'))) ∧ Below w.heap.size w w' := eqInt64S_any x y d d' w hx hy
theorem markInt64S_u (v : Value) (d : List Int) (base : Nat) (F : Nat → Prop) (k : Int) (w : World) (ho : intsR.O w base F v d) (hw : wtInts d ≤ 1048576) (hn : k + cntInts d ≤ 1073741824) (hk0 : 0 ≤ k) :
    Calls Try.prog 122 #[v, .int .i64 k] w fun r w' => r = .returned (.int .i64 (k + cntInts d)) ∧ intsR.O w' base F v (mkInts k d) ∧ Mod F w w' := by
  refine (markInt64S_any v d.length _ base _ k w ho.1 hw hk0 (by omega)).mono ?_
  rintro e w' ⟨rfl, h1, h2⟩
  refine ⟨by simp [cntInts], ⟨?_, ho.2⟩, by rw [ho.2]; exact Mod.of_grown h2⟩
  unfold mkInts
  rw [length_marksI]
  exact h1
theorem heldInt64S_u (v : Value) (d : List Int) (k : Int) (w : World) (hv : intsR.V w v (mkInts k d)) (hw : wtInts d ≤ 1048576) (hn : k + cntInts d ≤ 1073741824) (hk0 : 0 ≤ k) :
    Calls Try.prog 126 #[v, .int .i64 k] w fun r w' => r = .returned (.int .i64 (k + cntInts d)) ∧ Below w.heap.size w w' := by
  refine (heldInt64S_any v d.length k w hv hw hk0 (by omega)).mono ?_
  rintro e w' ⟨rfl, rfl⟩
  exact ⟨by simp [cntInts], Below.refl _ _⟩
end Go.Proofs.Ytncmdeijimgchaa

