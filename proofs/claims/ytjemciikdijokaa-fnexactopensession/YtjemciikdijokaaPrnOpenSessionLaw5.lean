import Derived.Test.YtjemciikdijokaaPrnOpenSessionLaw1
import Derived.Deep.RegionHeld3
import Derived.Deep.DrawnRows
import Derived.Test.YtjemciikdijokaaPrnOpenSessionLaw2
import Derived.Test.YtjemciikdijokaaPrnOpenSessionLaw4
import Derived.Test.YtjemciikdijokaaPrnOpenSessionLaw3

/-
  Slices of Mark: the law's own copy, comparison, count, marks. (Written by program after my texts on legs.)
-/
namespace Go.Proofs.Ytjemciikdijokaa
open Go.RowKit
set_option linter.unusedSectionVars false
attribute [local go_sem ↓] Go.wp_at_zero Go.wp_at_succ

structure Mrk where
  con : Int
  val : Int
variable [DecidableEq Mrk] [Inhabited Mrk]

def mrkV (x : Mrk) : Value := .agg #[.int .i64 x.con, .int .i64 x.val]
set_option maxHeartbeats 400000 in
theorem eqMark_any (x y : Mrk) (w : World) :
    Calls Try.prog 94 #[mrkV x, mrkV y] w fun e w' => e = .returned (.bool (decide (x = y))) ∧ Below w.heap.size w w' := by
  obtain ⟨a, b⟩ := x
  obtain ⟨a', b'⟩ := y
  unfold mrkV
  go_enter Try.func94, Try.ntmps94
  go_wp2
  all_goals
    go_ret
    exact ⟨by simp_all, balloc (balloc (Below.refl _ _) _) _⟩
def mrkCells (w : World) (b o : Nat) (x : Mrk) : Prop := w.cell? ⟨b, o, none⟩ = some (.int .i64 x.con) ∧ w.cell? ⟨b, o + 1, none⟩ = some (.int .i64 x.val)
def MrksV (w : World) (v : Value) (xs : List Mrk) : Prop :=
  ∃ a cap, v = .slice a xs.length cap ∧ xs.length ≤ cap ∧ cap ≤ maxLen ∧ ∀ i, i < xs.length → ∃ b o, a = some ⟨b, o, none⟩ ∧ mrkCells w b (o + i * 2) (xs.getD i default)
theorem mrkCells_below {w w' : World} {b o : Nat} {x : Mrk} (hb : Below w.heap.size w w') (h : mrkCells w b o x) : mrkCells w' b o x := by
  obtain ⟨h0, h1⟩ := h
  exact ⟨cell_keep hb h0, cell_keep hb h1⟩
theorem MrksV_below {w w' : World} {v : Value} {xs : List Mrk} (h : MrksV w v xs) (hb : Below w.heap.size w w') : MrksV w' v xs := by
  obtain ⟨a, cap, rfl, h1, h2, h3⟩ := h
  exact ⟨a, cap, rfl, h1, h2, fun i hi => by
    obtain ⟨b, o, ha, hc⟩ := h3 i hi
    exact ⟨b, o, ha, mrkCells_below hb hc⟩⟩
theorem mrkKeep2 {w w' : World} {b o b' o' : Nat} {x y : Mrk} (hb : Below w.heap.size w w') (h : mrkCells w b o x) (h' : mrkCells w b' o' y) :
    Below w.heap.size w w' ∧ (w'.cell? ⟨b, o, none⟩ = some (.int .i64 x.con) ∧ w'.cell? ⟨b, o + 1, none⟩ = some (.int .i64 x.val)) ∧ (w'.cell? ⟨b', o', none⟩ = some (.int .i64 y.con) ∧ w'.cell? ⟨b', o' + 1, none⟩ = some (.int .i64 y.val)) :=
  ⟨hb, mrkCells_below hb h, mrkCells_below hb h'⟩
theorem mrks_eq_of {xs ys : List Mrk} (hl : ys.length = xs.length) (h : ∀ j, j < xs.length → xs.getD j default = ys.getD j default) : xs = ys := by
  apply List.ext_getElem (by omega)
  intro i h1 h2
  have := h i h1
  simpa [List.getD, h1, h2] using this
set_option maxHeartbeats 1000000 in
theorem eqMarkS_any (x y : Value) (xs ys : List Mrk) (w : World) (hx : MrksV w x xs) (hy : MrksV w y ys) :
    Calls Try.prog 85 #[x, y] w fun e w' => e = .returned (.bool (decide (xs = ys))) ∧ Below w.heap.size w w' := by
  obtain ⟨ax, cx, rfl, hcx, hmx, hx⟩ := hx
  obtain ⟨ay, cy, rfl, hcy, hmy, hy⟩ := hy
  unfold maxLen at hmx hmy
  by_cases hl : ys.length = xs.length
  · rw [hl] at hcy hy ⊢
    have HL : Hid (ys.length = xs.length) := hl
    clear hl
    generalize hn : xs.length = n at *
    have HN : Hid (xs.length = n) := hn
    clear hn
    go_enter Try.func85, Try.ntmps85
    go_wp2
    go_loopw [5] (fun i w' => ∃ k : Nat, k ≤ n ∧ i = .int .i64 k ∧ (∀ j, j < k → xs.getD j default = ys.getD j default) ∧ Below w.heap.size w w') (fun i _ => n - (intOf i).toNat)
    case atStart => exact ⟨0, Nat.zero_le _, rfl, fun j h => absurd h (Nat.not_lt_zero _), Below.refl _ _⟩
    case round =>
      obtain ⟨k, hk, rfl, hpre, hbl⟩ := hrel
      have HP : Hid (∀ j, j < k → xs.getD j default = ys.getD j default) := hpre
      clear hpre
      by_cases hlt : k < n
      · obtain ⟨bx, ox, rfl, h1⟩ := hx k hlt
        obtain ⟨b2, oy, rfl, h2⟩ := hy k hlt
        obtain ⟨l1, hl1⟩ : ∃ l, l = xs.getD k default := ⟨_, rfl⟩
        obtain ⟨l2, hl2⟩ : ∃ l, l = ys.getD k default := ⟨_, rfl⟩
        rw [← hl1] at h1
        rw [← hl2] at h2
        have H1 : Hid (l1 = xs.getD k default) := hl1
        have H2 : Hid (l2 = ys.getD k default) := hl2
        clear hl1 hl2 hx hy
        go_wp2
        go_region_held3 (fun w' => Below w.heap.size w w' ∧ (w'.cell? ⟨bx, ox + k * 2, none⟩ = some (.int .i64 l1.con) ∧ w'.cell? ⟨bx, ox + k * 2 + 1, none⟩ = some (.int .i64 l1.val)) ∧ (w'.cell? ⟨b2, oy + k * 2, none⟩ = some (.int .i64 l2.con) ∧ w'.cell? ⟨b2, oy + k * 2 + 1, none⟩ = some (.int .i64 l2.val))) ((refine mrkKeep2 ?_ h1 h2; repeat (first | exact Below.refl _ _ | assumption | refine Below.drew ?_ | refine balloc ?_ _ | refine bstep ?_ (by assumption)))) (first | (go_at_call 94; refine (eqMark_any l1 l2 _).mono ?_; rintro e w' ⟨rfl, hb1⟩))
        rename_i hH
        have hB := hH.1
        clear hH
        go_wp2
        · rename_i hle
          go_ret
          refine ⟨?_, hB⟩
          have : ¬ xs = ys := fun h => by
            have : l1 = l2 := by rw [H1.out, H2.out, h]
            simp [this] at hle
          simp [this]
        · rename_i hle
          refine ⟨⟨k + 1, by omega, by go_num, fun j hj => ?_, hB⟩, by simp [intOf]; omega⟩
          by_cases hjk : j < k
          · exact HP.out j hjk
          · have : j = k := by omega
            subst this
            rw [← H1.out, ← H2.out]
            simpa using hle
      · go_wp2
        go_ret
        have : k = n := by omega
        subst this
        refine ⟨?_, hbl⟩
        have : xs = ys := mrks_eq_of (by rw [HL.out, HN.out]) (by rw [HN.out]; exact HP.out)
        simp [this]
  · go_enter Try.func85, Try.ntmps85
    have hl' : ((xs.length : Int) == (ys.length : Int)) = false := by simp; omega
    go_wp2
    go_ret
    have : ¬ xs = ys := fun h => hl (by rw [h])
    exact ⟨by simp [this], Below.refl _ _⟩
def mrkC (x : Mrk) : List Value := [.int .i64 x.con, .int .i64 x.val]
def mrksC (xs : List Mrk) : List Value := xs.flatMap mrkC
theorem length_mrksC (xs : List Mrk) : (mrksC xs).length = xs.length * 2 := by
  induction xs with
  | nil => rfl
  | cons x r ih =>
    have e : mrksC (x :: r) = mrkC x ++ mrksC r := by simp [mrksC]
    have l4 : (mrkC x).length = 2 := rfl
    rw [e, List.length_append, l4, ih, List.length_cons]
    omega
theorem get_mrksC (xs : List Mrk) : ∀ i, i < xs.length → (mrksC xs)[i * 2]? = some (.int .i64 (xs.getD i default).con) ∧ (mrksC xs)[i * 2 + 1]? = some (.int .i64 (xs.getD i default).val) := by
  induction xs with
  | nil => intro i h; simp at h
  | cons x r ih =>
    intro i h
    cases i with
    | zero => simp [mrksC, mrkC]
    | succ i =>
      have := ih i (by simpa using h)
      have e : mrksC (x :: r) = mrkC x ++ mrksC r := by simp [mrksC]
      have l4 : (mrkC x).length = 2 := rfl
      rw [e]
      refine ⟨?_, ?_⟩
      all_goals rw [List.getElem?_append_right (by omega), l4]
      · rw [show (i + 1) * 2 - 2 = i * 2 by omega]; simpa using this.1
      · rw [show (i + 1) * 2 + 1 - 2 = i * 2 + 1 by omega]; simpa using this.2
theorem MrksV_of_owns {w : World} {base e : Nat} {v : Value} {xs : List Mrk} (h : w.ownsRow base e 2 v xs.length (mrksC xs)) : MrksV w v xs := by
  rcases h.2 with ⟨rfl, hn⟩ | ⟨g, cap, cur, rfl, hb, hg, hnc, hcm, hcs, htake⟩
  · exact ⟨none, 0, by rw [hn], by omega, by unfold maxLen; omega, fun i hi => by omega⟩
  · refine ⟨some ⟨g, 0, none⟩, cap, rfl, hnc, hcm, fun i hi => ⟨g, 0, rfl, ?_⟩⟩
    obtain ⟨h0, h1⟩ := get_mrksC xs i hi
    simp only [Nat.zero_add, mrkCells]
    exact ⟨(h.cellAt _ (by omega)).trans h0, (h.cellAt _ (by omega)).trans h1⟩
def mrkUpto (k : Nat) (cs : List Value) (xs : List Mrk) : Prop := ∀ j, j < k * 2 → cs[j]? = (mrksC xs)[j]?
theorem mrkUpto_full {n : Nat} {cs : List Value} {xs : List Mrk} (h : mrkUpto n cs xs) (hl : cs.length = n * 2) (hn : xs.length = n) : cs = mrksC xs := by
  apply List.ext_getElem?
  intro j
  by_cases hj : j < n * 2
  · exact h j hj
  · rw [List.getElem?_eq_none (by omega), List.getElem?_eq_none (by rw [length_mrksC]; omega)]
theorem mrkUpto_set {k : Nat} {cs : List Value} {xs : List Mrk} {x : Mrk} (h : mrkUpto k cs xs) (hk : k < xs.length) (hl : cs.length = xs.length * 2) (he : x = xs.getD k default) :
    mrkUpto (k + 1) ((cs.set (k * 2) (.int .i64 x.con)).set (k * 2 + 1) (.int .i64 x.val)) xs := by
  intro j hj
  obtain ⟨h0, h1⟩ := get_mrksC xs k hk
  subst he
  simp only [List.getElem?_set, List.length_set]
  by_cases e1 : k * 2 + 1 = j
  · subst e1; simp [h1]; omega
  by_cases e0 : k * 2 = j
  · subst e0; simp [h0]; omega
  simp [e0, e1]
  exact h j (by omega)
def mrkMark (k : Int) (i : Nat) : Mrk := ⟨k + 2 * i, k + 2 * i + 1⟩
def mrkMarks (k : Int) (n : Nat) : List Mrk := (List.range n).map (mrkMark k)
theorem length_mrkMarks (k : Int) (n : Nat) : (mrkMarks k n).length = n := by simp [mrkMarks]
theorem getD_mrkMarks (k : Int) (n i : Nat) (h : i < n) : (mrkMarks k n).getD i default = mrkMark k i := by simp [mrkMarks, List.getD, h]
set_option maxHeartbeats 1000000 in
theorem markMarkS_any (v : Value) (n : Nat) (cs : List Value) (base e : Nat) (k : Int) (w : World) (ho : w.ownsRow base e 2 v n cs) (hn : n ≤ 1048576) (hk0 : 0 ≤ k) (hk1 : k ≤ 1073741824) :
    Calls Try.prog 72 #[v, .int .i64 k] w fun r w' => r = .returned (.int .i64 (k + 2 * n)) ∧ w'.ownsRow base e 2 v n (mrksC (mrkMarks k n)) ∧ w.grownBy w' v.ownBlock := by
  rcases ho.2 with ⟨rfl, rfl⟩ | ⟨g, cap, cur, rfl, hb, hg, hnc, hcm, _, _⟩
  · go_enter Try.func72, Try.ntmps72
    go_wp2
    go_loopw [1, 5] (fun q i w' => q = .int .i64 k ∧ i = .int .i64 0 ∧ w' = w) (fun _ _ _ => 0)
    case atStart => exact ⟨rfl, rfl, rfl⟩
    case round =>
      obtain ⟨rfl, rfl, rfl⟩ := hrel
      go_wp2
      go_ret
      exact ⟨by simp, World.ownsRow_nil _ _ _ _, ⟨rfl, rfl, rfl, Nat.le_refl _, fun _ _ _ => rfl⟩⟩
  · unfold maxLen at hcm
    go_enter Try.func72, Try.ntmps72
    go_wp2
    go_loopw [1, 5] (fun q i w' => ∃ (j : Nat) (cs' : List Value), j ≤ n ∧ i = .int .i64 j ∧ q = .int .i64 (k + 2 * j) ∧ w'.ownsRow base e 2 (.slice (some ⟨g, 0, none⟩) n cap) n cs' ∧ mrkUpto j cs' (mrkMarks k n) ∧ w.grownBy w' (some g)) (fun _ i _ => n - (intOf i).toNat)
    case atStart => exact ⟨0, cs, Nat.zero_le _, rfl, by simp, ho, fun j h => by omega, ⟨rfl, rfl, rfl, Nat.le_refl _, fun _ _ _ => rfl⟩⟩
    case round =>
      obtain ⟨j, cs', hj, rfl, rfl, ho1, hup, hgr⟩ := hrel
      have HU : Hid (mrkUpto j cs' (mrkMarks k n)) := hup
      clear hup ho hg
      by_cases hlt : j < n
      · obtain ⟨u0, g0⟩ := owns_some ho1 (j * 2) (by omega)
        obtain ⟨u1, g1⟩ := owns_some ho1 (j * 2 + 1) (by omega)
        have hf := fun j => ho1.frozenAt j
        go_wp2
        have s0 := ho1.stored (j * 2) (.int .i64 (k + 2 * j))
        have s1 := s0.1.stored (j * 2 + 1) (.int .i64 (k + 2 * j + 1))
        refine ⟨⟨j + 1, _, by omega, by go_num, ?_, s1.1, mrkUpto_set (x := mrkMark k j) HU.out (by rw [length_mrkMarks]; exact hlt) (by rw [length_mrkMarks]; exact ho1.1) (getD_mrkMarks k n j hlt).symm, grownTrans (grownTrans (hgr) s0.2) s1.2⟩, by simp [intOf]; omega⟩
        congr 1
        omega
      · go_wp2
        go_ret
        have hjn : j = n := by omega
        subst hjn
        have e' := mrkUpto_full HU.out ho1.1 (length_mrkMarks k j)
        rw [e'] at ho1
        exact ⟨rfl, ho1, hgr⟩
set_option maxHeartbeats 1000000 in
theorem heldMarkS_any (v : Value) (n : Nat) (k : Int) (w : World) (hv : MrksV w v (mrkMarks k n)) (hn : n ≤ 1048576) (hk0 : 0 ≤ k) (hk1 : k ≤ 1073741824) :
    Calls Try.prog 78 #[v, .int .i64 k] w fun r w' => r = .returned (.int .i64 (k + 2 * n)) ∧ w' = w := by
  obtain ⟨a, cap, rfl, hnc, hcm, hc⟩ := hv
  rw [length_mrkMarks] at hnc hc ⊢
  unfold maxLen at hcm
  go_enter Try.func78, Try.ntmps78
  go_wp2
  go_loopw [1, 5] (fun q i w' => ∃ j : Nat, j ≤ n ∧ i = .int .i64 j ∧ q = .int .i64 (k + 2 * j) ∧ w' = w) (fun _ i _ => n - (intOf i).toNat)
  case atStart => exact ⟨0, Nat.zero_le _, rfl, by simp, rfl⟩
  case round =>
    obtain ⟨j, hj, rfl, rfl, rfl⟩ := hrel
    by_cases hlt : j < n
    · obtain ⟨b, o, rfl, h1⟩ := hc j hlt
      rw [getD_mrkMarks k n j hlt] at h1
      obtain ⟨g0, g1⟩ := h1
      simp only [mrkMark] at g0 g1
      clear hc
      go_wp2
      refine ⟨⟨j + 1, by omega, by go_num, ?_, trivial⟩, by simp [intOf]; omega⟩
      congr 1
      omega
    · go_wp2
      go_ret
      have hjn : j = n := by omega
      subst hjn
      exact ⟨rfl, rfl⟩
end Go.Proofs.Ytjemciikdijokaa

/-
  Rows of impl.Mark: the uniform forms. (Written by program: nest.py.)
-/
namespace Go.Proofs.Ytjemciikdijokaa
open Go.RowKit
set_option linter.unusedSectionVars false
variable [DecidableEq Mrk] [Inhabited Mrk]
attribute [local go_sem ↓] Go.wp_at_zero Go.wp_at_succ

def mrksR : Rep (List Mrk) := fRep 128 2 mrksC MrksV MrksV_below MrksV_of_owns
def wtMrks (xs : List Mrk) : Nat := xs.length
def cntMrks (xs : List Mrk) : Nat := 2 * xs.length
def mkMrks (k : Int) (xs : List Mrk) : List Mrk := mrkMarks k xs.length
theorem mrks_cnt (d : List Mrk) : cntMrks d ≤ 2 * wtMrks d := by unfold cntMrks wtMrks; omega
theorem eqMarkS_u (x y : Value) (d d' : List Mrk) (w : World) (hx : mrksR.V w x d) (hy : mrksR.V w y d') :
    Calls Try.prog 85 #[x, y] w fun e w' => e = .returned (.bool (decide (d = d'))) ∧ Below w.heap.size w w' := eqMarkS_any x y d d' w hx hy
theorem markMarkS_u (v : Value) (d : List Mrk) (base : Nat) (F : Nat → Prop) (k : Int) (w : World) (ho : mrksR.O w base F v d) (hw : wtMrks d ≤ 1048576) (hn : k + cntMrks d ≤ 1073741824) (hk0 : 0 ≤ k) :
    Calls Try.prog 72 #[v, .int .i64 k] w fun r w' => r = .returned (.int .i64 (k + cntMrks d)) ∧ mrksR.O w' base F v (mkMrks k d) ∧ Mod F w w' := by
  refine (markMarkS_any v d.length _ base _ k w ho.1 hw hk0 (by omega)).mono ?_
  rintro e w' ⟨rfl, h1, h2⟩
  refine ⟨by simp [cntMrks], ⟨?_, ho.2⟩, by rw [ho.2]; exact Mod.of_grown h2⟩
  unfold mkMrks
  rw [length_mrkMarks]
  exact h1
theorem heldMarkS_u (v : Value) (d : List Mrk) (k : Int) (w : World) (hv : mrksR.V w v (mkMrks k d)) (hw : wtMrks d ≤ 1048576) (hn : k + cntMrks d ≤ 1073741824) (hk0 : 0 ≤ k) :
    Calls Try.prog 78 #[v, .int .i64 k] w fun r w' => r = .returned (.int .i64 (k + cntMrks d)) ∧ Below w.heap.size w w' := by
  refine (heldMarkS_any v d.length k w hv hw hk0 (by omega)).mono ?_
  rintro e w' ⟨rfl, rfl⟩
  exact ⟨by simp [cntMrks], Below.refl _ _⟩
end Go.Proofs.Ytjemciikdijokaa

/-
  Shard. (Written by program: nest.py.)
-/
namespace Go.Proofs.Ytjemciikdijokaa
open Go.RowKit
set_option linter.unusedSectionVars false
variable [DecidableEq Bal] [Inhabited Bal] [DecidableEq Mrk] [Inhabited Mrk] [DecidableEq Leg] [Inhabited Leg] [DecidableEq Cont] [Inhabited Cont]
attribute [local go_sem ↓] Go.wp_at_zero Go.wp_at_succ

set_option linter.unusedSimpArgs false

structure Shd where
  idx : Int
  bals : List Bal
  votes : List Mrk
  held : List Cont
  done : List Mrk
  appl : List Int
variable [DecidableEq Shd] [Inhabited Shd]

def shdR : Rep Shd where
  V := fun w v x => ∃ u1 u2 u3 u4 u5, v = .agg #[.int .i64 x.idx, u1, u2, u3, u4, u5] ∧ balsR.V w u1 x.bals ∧ mrksR.V w u2 x.votes ∧ contsR.V w u3 x.held ∧ mrksR.V w u4 x.done ∧ intsR.V w u5 x.appl
  O := fun w base F v x => ∃ u1 u2 u3 u4 u5 F1 F2 F3 F4 F5, v = .agg #[.int .i64 x.idx, u1, u2, u3, u4, u5] ∧ balsR.O w base F1 u1 x.bals ∧ mrksR.O w base F2 u2 x.votes ∧ contsR.O w base F3 u3 x.held ∧ mrksR.O w base F4 u4 x.done ∧ intsR.O w base F5 u5 x.appl ∧ (∀ b, F1 b → ¬ F2 b) ∧ (∀ b, F1 b → ¬ F3 b) ∧ (∀ b, F1 b → ¬ F4 b) ∧ (∀ b, F1 b → ¬ F5 b) ∧ (∀ b, F2 b → ¬ F3 b) ∧ (∀ b, F2 b → ¬ F4 b) ∧ (∀ b, F2 b → ¬ F5 b) ∧ (∀ b, F3 b → ¬ F4 b) ∧ (∀ b, F3 b → ¬ F5 b) ∧ (∀ b, F4 b → ¬ F5 b) ∧ (∀ b, F b ↔ (F1 b ∨ F2 b ∨ F3 b ∨ F4 b ∨ F5 b))
  below := fun h hb => by
    obtain ⟨u1, u2, u3, u4, u5, rfl, h1, h2, h3, h4, h5⟩ := h
    exact ⟨u1, u2, u3, u4, u5, rfl, balsR.below h1 hb, mrksR.below h2 hb, contsR.below h3 hb, mrksR.below h4 hb, intsR.below h5 hb⟩
  ofO := fun h => by
    obtain ⟨u1, u2, u3, u4, u5, F1, F2, F3, F4, F5, rfl, h1, h2, h3, h4, h5, _⟩ := h
    exact ⟨u1, u2, u3, u4, u5, rfl, balsR.ofO h1, mrksR.ofO h2, contsR.ofO h3, mrksR.ofO h4, intsR.ofO h5⟩
  mod := fun h hm hd => by
    obtain ⟨u1, u2, u3, u4, u5, F1, F2, F3, F4, F5, rfl, h1, h2, h3, h4, h5, s12, s13, s14, s15, s23, s24, s25, s34, s35, s45, hF⟩ := h
    exact ⟨u1, u2, u3, u4, u5, F1, F2, F3, F4, F5, rfl, balsR.mod h1 hm (fun b hb => hd b ((hF b).2 (.inl hb))), mrksR.mod h2 hm (fun b hb => hd b ((hF b).2 (.inr (.inl hb)))), contsR.mod h3 hm (fun b hb => hd b ((hF b).2 (.inr (.inr (.inl hb))))), mrksR.mod h4 hm (fun b hb => hd b ((hF b).2 (.inr (.inr (.inr (.inl hb)))))), intsR.mod h5 hm (fun b hb => hd b ((hF b).2 (.inr (.inr (.inr (.inr hb)))))), s12, s13, s14, s15, s23, s24, s25, s34, s35, s45, hF⟩
  rng := fun h b hb => by
    obtain ⟨u1, u2, u3, u4, u5, F1, F2, F3, F4, F5, rfl, h1, h2, h3, h4, h5, s12, s13, s14, s15, s23, s24, s25, s34, s35, s45, hF⟩ := h
    rcases (hF b).1 hb with hb | hb | hb | hb | hb
    · exact balsR.rng h1 b hb
    · exact mrksR.rng h2 b hb
    · exact contsR.rng h3 b hb
    · exact mrksR.rng h4 b hb
    · exact intsR.rng h5 b hb
  base := fun h hb => by
    obtain ⟨u1, u2, u3, u4, u5, F1, F2, F3, F4, F5, rfl, h1, h2, h3, h4, h5, s12, s13, s14, s15, s23, s24, s25, s34, s35, s45, hF⟩ := h
    exact ⟨u1, u2, u3, u4, u5, F1, F2, F3, F4, F5, rfl, balsR.base h1 hb, mrksR.base h2 hb, contsR.base h3 hb, mrksR.base h4 hb, intsR.base h5 hb, s12, s13, s14, s15, s23, s24, s25, s34, s35, s45, hF⟩
def wtShd (x : Shd) : Nat := wtBals x.bals + wtMrks x.votes + wtConts x.held + wtMrks x.done + wtInts x.appl
def lvShd (v : Value) : List Value := match v with | .agg a => one (a.getD 0 (.int .i64 0)) ++ one (a.getD 1 (.int .i64 0)) ++ one (a.getD 2 (.int .i64 0)) ++ one (a.getD 3 (.int .i64 0)) ++ one (a.getD 4 (.int .i64 0)) ++ one (a.getD 5 (.int .i64 0)) | _ => []
def cntElShd (x : Shd) : Nat := 1 + cntBals x.bals + cntMrks x.votes + cntConts x.held + cntMrks x.done + cntInts x.appl
def mkElShd (k : Int) (x : Shd) : Shd := { idx := k, bals := mkBals (k + 1) x.bals, votes := mkMrks (k + 1 + cntBals x.bals) x.votes, held := mkConts (k + 1 + cntBals x.bals + cntMrks x.votes) x.held, done := mkMrks (k + 1 + cntBals x.bals + cntMrks x.votes + cntConts x.held) x.done, appl := mkInts (k + 1 + cntBals x.bals + cntMrks x.votes + cntConts x.held + cntMrks x.done) x.appl }
theorem shd_cntEl (d : Shd) : cntElShd d ≤ 6 * (1 + wtShd d) := by
  unfold cntElShd wtShd
  have q1 := bals_cnt d.bals
  have q2 := mrks_cnt d.votes
  have q3 := conts_cnt d.held
  have q4 := mrks_cnt d.done
  have q5 := ints_cnt d.appl
  omega
set_option maxHeartbeats 1000000 in
theorem eqShard_u (x y : Value) (d d' : Shd) (w : World) (hx : shdR.V w x d) (hy : shdR.V w y d') :
    Calls Try.prog 66 #[x, y] w fun e w' => e = .returned (.bool (decide (d = d'))) ∧ Below w.heap.size w w' := by
  obtain ⟨u1, u2, u3, u4, u5, rfl, h1, h2, h3, h4, h5⟩ := hx
  obtain ⟨v1, v2, v3, v4, v5, rfl, k1, k2, k3, k4, k5⟩ := hy
  obtain ⟨idx, bals, votes, held, done, appl⟩ := d
  obtain ⟨idx', bals', votes', held', done', appl'⟩ := d'
  dsimp only at h1 k1 h2 k2 h3 k3 h4 k4 h5 k5
  go_enter Try.func66, Try.ntmps66
  go_wp2_with fail
  all_goals try (go_ret; exact ⟨by simp_all, by (repeat (first | exact Below.refl _ _ | assumption | refine Below.drew ?_ | refine balloc ?_ _ | refine bset ?_ (by simp; omega) _ | refine bset ?_ (by simp) _ | refine bstep ?_ (by assumption)))⟩)
  refine (eqBalanceS_u _ _ bals bals' _ (balsR.below h1 (by (repeat (first | exact Below.refl _ _ | assumption | refine Below.drew ?_ | refine balloc ?_ _ | refine bset ?_ (by simp; omega) _ | refine bset ?_ (by simp) _ | refine bstep ?_ (by assumption))))) (balsR.below k1 (by (repeat (first | exact Below.refl _ _ | assumption | refine Below.drew ?_ | refine balloc ?_ _ | refine bset ?_ (by simp; omega) _ | refine bset ?_ (by simp) _ | refine bstep ?_ (by assumption)))))).mono ?_
  rintro e w1 ⟨rfl, b1⟩
  have x0 : w1.cell? ⟨w.heap.size, 0, none⟩ = some (.int .i64 idx) := cell_keep b1 (by simp [go_sem])
  have x1 : w1.cell? ⟨w.heap.size, 1, none⟩ = some (u1) := cell_keep b1 (by simp [go_sem])
  have x2 : w1.cell? ⟨w.heap.size, 2, none⟩ = some (u2) := cell_keep b1 (by simp [go_sem])
  have x3 : w1.cell? ⟨w.heap.size, 3, none⟩ = some (u3) := cell_keep b1 (by simp [go_sem])
  have x4 : w1.cell? ⟨w.heap.size, 4, none⟩ = some (u4) := cell_keep b1 (by simp [go_sem])
  have x5 : w1.cell? ⟨w.heap.size, 5, none⟩ = some (u5) := cell_keep b1 (by simp [go_sem])
  have y0 : w1.cell? ⟨w.heap.size + 1, 0, none⟩ = some (.int .i64 idx') := cell_keep b1 (by simp [go_sem])
  have y1 : w1.cell? ⟨w.heap.size + 1, 1, none⟩ = some (v1) := cell_keep b1 (by simp [go_sem])
  have y2 : w1.cell? ⟨w.heap.size + 1, 2, none⟩ = some (v2) := cell_keep b1 (by simp [go_sem])
  have y3 : w1.cell? ⟨w.heap.size + 1, 3, none⟩ = some (v3) := cell_keep b1 (by simp [go_sem])
  have y4 : w1.cell? ⟨w.heap.size + 1, 4, none⟩ = some (v4) := cell_keep b1 (by simp [go_sem])
  have y5 : w1.cell? ⟨w.heap.size + 1, 5, none⟩ = some (v5) := cell_keep b1 (by simp [go_sem])
  go_wp2_with fail
  all_goals try (go_ret; exact ⟨by simp_all, by (repeat (first | exact Below.refl _ _ | assumption | refine Below.drew ?_ | refine balloc ?_ _ | refine bset ?_ (by simp; omega) _ | refine bset ?_ (by simp) _ | refine bstep ?_ (by assumption)))⟩)
  refine (eqMarkS_u _ _ votes votes' _ (mrksR.below h2 (by (repeat (first | exact Below.refl _ _ | assumption | refine Below.drew ?_ | refine balloc ?_ _ | refine bset ?_ (by simp; omega) _ | refine bset ?_ (by simp) _ | refine bstep ?_ (by assumption))))) (mrksR.below k2 (by (repeat (first | exact Below.refl _ _ | assumption | refine Below.drew ?_ | refine balloc ?_ _ | refine bset ?_ (by simp; omega) _ | refine bset ?_ (by simp) _ | refine bstep ?_ (by assumption)))))).mono ?_
  rintro e w2 ⟨rfl, b2⟩
  replace x0 : w2.cell? ⟨w.heap.size, 0, none⟩ = some (.int .i64 idx) := cell_keep b2 x0
  replace x1 : w2.cell? ⟨w.heap.size, 1, none⟩ = some (u1) := cell_keep b2 x1
  replace x2 : w2.cell? ⟨w.heap.size, 2, none⟩ = some (u2) := cell_keep b2 x2
  replace x3 : w2.cell? ⟨w.heap.size, 3, none⟩ = some (u3) := cell_keep b2 x3
  replace x4 : w2.cell? ⟨w.heap.size, 4, none⟩ = some (u4) := cell_keep b2 x4
  replace x5 : w2.cell? ⟨w.heap.size, 5, none⟩ = some (u5) := cell_keep b2 x5
  replace y0 : w2.cell? ⟨w.heap.size + 1, 0, none⟩ = some (.int .i64 idx') := cell_keep b2 y0
  replace y1 : w2.cell? ⟨w.heap.size + 1, 1, none⟩ = some (v1) := cell_keep b2 y1
  replace y2 : w2.cell? ⟨w.heap.size + 1, 2, none⟩ = some (v2) := cell_keep b2 y2
  replace y3 : w2.cell? ⟨w.heap.size + 1, 3, none⟩ = some (v3) := cell_keep b2 y3
  replace y4 : w2.cell? ⟨w.heap.size + 1, 4, none⟩ = some (v4) := cell_keep b2 y4
  replace y5 : w2.cell? ⟨w.heap.size + 1, 5, none⟩ = some (v5) := cell_keep b2 y5
  go_wp2_with fail
  all_goals try (go_ret; exact ⟨by simp_all, by (repeat (first | exact Below.refl _ _ | assumption | refine Below.drew ?_ | refine balloc ?_ _ | refine bset ?_ (by simp; omega) _ | refine bset ?_ (by simp) _ | refine bstep ?_ (by assumption)))⟩)
  refine (eqContractS_u _ _ held held' _ (contsR.below h3 (by (repeat (first | exact Below.refl _ _ | assumption | refine Below.drew ?_ | refine balloc ?_ _ | refine bset ?_ (by simp; omega) _ | refine bset ?_ (by simp) _ | refine bstep ?_ (by assumption))))) (contsR.below k3 (by (repeat (first | exact Below.refl _ _ | assumption | refine Below.drew ?_ | refine balloc ?_ _ | refine bset ?_ (by simp; omega) _ | refine bset ?_ (by simp) _ | refine bstep ?_ (by assumption)))))).mono ?_
  rintro e w3 ⟨rfl, b3⟩
  replace x0 : w3.cell? ⟨w.heap.size, 0, none⟩ = some (.int .i64 idx) := cell_keep b3 x0
  replace x1 : w3.cell? ⟨w.heap.size, 1, none⟩ = some (u1) := cell_keep b3 x1
  replace x2 : w3.cell? ⟨w.heap.size, 2, none⟩ = some (u2) := cell_keep b3 x2
  replace x3 : w3.cell? ⟨w.heap.size, 3, none⟩ = some (u3) := cell_keep b3 x3
  replace x4 : w3.cell? ⟨w.heap.size, 4, none⟩ = some (u4) := cell_keep b3 x4
  replace x5 : w3.cell? ⟨w.heap.size, 5, none⟩ = some (u5) := cell_keep b3 x5
  replace y0 : w3.cell? ⟨w.heap.size + 1, 0, none⟩ = some (.int .i64 idx') := cell_keep b3 y0
  replace y1 : w3.cell? ⟨w.heap.size + 1, 1, none⟩ = some (v1) := cell_keep b3 y1
  replace y2 : w3.cell? ⟨w.heap.size + 1, 2, none⟩ = some (v2) := cell_keep b3 y2
  replace y3 : w3.cell? ⟨w.heap.size + 1, 3, none⟩ = some (v3) := cell_keep b3 y3
  replace y4 : w3.cell? ⟨w.heap.size + 1, 4, none⟩ = some (v4) := cell_keep b3 y4
  replace y5 : w3.cell? ⟨w.heap.size + 1, 5, none⟩ = some (v5) := cell_keep b3 y5
  go_wp2_with fail
  all_goals try (go_ret; exact ⟨by simp_all, by (repeat (first | exact Below.refl _ _ | assumption | refine Below.drew ?_ | refine balloc ?_ _ | refine bset ?_ (by simp; omega) _ | refine bset ?_ (by simp) _ | refine bstep ?_ (by assumption)))⟩)
  refine (eqMarkS_u _ _ done done' _ (mrksR.below h4 (by (repeat (first | exact Below.refl _ _ | assumption | refine Below.drew ?_ | refine balloc ?_ _ | refine bset ?_ (by simp; omega) _ | refine bset ?_ (by simp) _ | refine bstep ?_ (by assumption))))) (mrksR.below k4 (by (repeat (first | exact Below.refl _ _ | assumption | refine Below.drew ?_ | refine balloc ?_ _ | refine bset ?_ (by simp; omega) _ | refine bset ?_ (by simp) _ | refine bstep ?_ (by assumption)))))).mono ?_
  rintro e w4 ⟨rfl, b4⟩
  replace x0 : w4.cell? ⟨w.heap.size, 0, none⟩ = some (.int .i64 idx) := cell_keep b4 x0
  replace x1 : w4.cell? ⟨w.heap.size, 1, none⟩ = some (u1) := cell_keep b4 x1
  replace x2 : w4.cell? ⟨w.heap.size, 2, none⟩ = some (u2) := cell_keep b4 x2
  replace x3 : w4.cell? ⟨w.heap.size, 3, none⟩ = some (u3) := cell_keep b4 x3
  replace x4 : w4.cell? ⟨w.heap.size, 4, none⟩ = some (u4) := cell_keep b4 x4
  replace x5 : w4.cell? ⟨w.heap.size, 5, none⟩ = some (u5) := cell_keep b4 x5
  replace y0 : w4.cell? ⟨w.heap.size + 1, 0, none⟩ = some (.int .i64 idx') := cell_keep b4 y0
  replace y1 : w4.cell? ⟨w.heap.size + 1, 1, none⟩ = some (v1) := cell_keep b4 y1
  replace y2 : w4.cell? ⟨w.heap.size + 1, 2, none⟩ = some (v2) := cell_keep b4 y2
  replace y3 : w4.cell? ⟨w.heap.size + 1, 3, none⟩ = some (v3) := cell_keep b4 y3
  replace y4 : w4.cell? ⟨w.heap.size + 1, 4, none⟩ = some (v4) := cell_keep b4 y4
  replace y5 : w4.cell? ⟨w.heap.size + 1, 5, none⟩ = some (v5) := cell_keep b4 y5
  go_wp2_with fail
  all_goals try (go_ret; exact ⟨by simp_all, by (repeat (first | exact Below.refl _ _ | assumption | refine Below.drew ?_ | refine balloc ?_ _ | refine bset ?_ (by simp; omega) _ | refine bset ?_ (by simp) _ | refine bstep ?_ (by assumption)))⟩)
  refine (eqInt64S_u _ _ appl appl' _ (intsR.below h5 (by (repeat (first | exact Below.refl _ _ | assumption | refine Below.drew ?_ | refine balloc ?_ _ | refine bset ?_ (by simp; omega) _ | refine bset ?_ (by simp) _ | refine bstep ?_ (by assumption))))) (intsR.below k5 (by (repeat (first | exact Below.refl _ _ | assumption | refine Below.drew ?_ | refine balloc ?_ _ | refine bset ?_ (by simp; omega) _ | refine bset ?_ (by simp) _ | refine bstep ?_ (by assumption)))))).mono ?_
  rintro e w5 ⟨rfl, b5⟩
  go_wp2
  all_goals
    go_ret
    exact ⟨by simp_all, by (repeat (first | exact Below.refl _ _ | assumption | refine Below.drew ?_ | refine balloc ?_ _ | refine bset ?_ (by simp; omega) _ | refine bset ?_ (by simp) _ | refine bstep ?_ (by assumption)))⟩
end Go.Proofs.Ytjemciikdijokaa

/-
  Rows of Shard. (Written by program: nest.py.)
-/
namespace Go.Proofs.Ytjemciikdijokaa
open Go.RowKit
set_option linter.unusedSectionVars false
variable [DecidableEq Bal] [Inhabited Bal] [DecidableEq Mrk] [Inhabited Mrk] [DecidableEq Leg] [Inhabited Leg] [DecidableEq Cont] [Inhabited Cont] [DecidableEq Shd] [Inhabited Shd]
attribute [local go_sem ↓] Go.wp_at_zero Go.wp_at_succ

def shdsR : Rep (List Shd) := nRep shdR 94 6 lvShd
def wtShds (xs : List Shd) : Nat := wtL wtShd xs
def cntShds (xs : List Shd) : Nat := cntL cntElShd xs
def mkShds (k : Int) (xs : List Shd) : List Shd := mkL mkElShd cntElShd k xs
theorem shds_form {w : World} {v : Value} {xs : List Shd} (h : shdsR.V w v xs) : ∃ a c, v = .slice a xs.length c := by
  obtain ⟨a, c, rfl, _⟩ := h
  exact ⟨_, _, rfl⟩
theorem shds_cnt (d : List Shd) : cntShds d ≤ 6 * wtShds d := cntL_le (fun x => shd_cntEl x) d
theorem keepShds {w w' : World} {a0 a1 a2 a3 a4 a5 a6 a7 a8 a9 a10 a11 : Addr} {x0 x1 x2 x3 x4 x5 x6 x7 x8 x9 x10 x11 : Value} (hb : Below w.heap.size w w') (g0 : w.cell? a0 = some x0) (g1 : w.cell? a1 = some x1) (g2 : w.cell? a2 = some x2) (g3 : w.cell? a3 = some x3) (g4 : w.cell? a4 = some x4) (g5 : w.cell? a5 = some x5) (g6 : w.cell? a6 = some x6) (g7 : w.cell? a7 = some x7) (g8 : w.cell? a8 = some x8) (g9 : w.cell? a9 = some x9) (g10 : w.cell? a10 = some x10) (g11 : w.cell? a11 = some x11) : Below w.heap.size w w' ∧ w'.cell? a0 = some x0 ∧ w'.cell? a1 = some x1 ∧ w'.cell? a2 = some x2 ∧ w'.cell? a3 = some x3 ∧ w'.cell? a4 = some x4 ∧ w'.cell? a5 = some x5 ∧ w'.cell? a6 = some x6 ∧ w'.cell? a7 = some x7 ∧ w'.cell? a8 = some x8 ∧ w'.cell? a9 = some x9 ∧ w'.cell? a10 = some x10 ∧ w'.cell? a11 = some x11 :=
  ⟨hb, cell_keep hb g0, cell_keep hb g1, cell_keep hb g2, cell_keep hb g3, cell_keep hb g4, cell_keep hb g5, cell_keep hb g6, cell_keep hb g7, cell_keep hb g8, cell_keep hb g9, cell_keep hb g10, cell_keep hb g11⟩
set_option maxHeartbeats 1000000 in
theorem eqShardS_u (x y : Value) (xs ys : List Shd) (w : World) (hx : shdsR.V w x xs) (hy : shdsR.V w y ys) :
    Calls Try.prog 48 #[x, y] w fun e w' => e = .returned (.bool (decide (xs = ys))) ∧ Below w.heap.size w w' := by
  obtain ⟨ax, cx, rfl, hcx, hmx, hx⟩ := hx
  obtain ⟨ay, cy, rfl, hcy, hmy, hy⟩ := hy
  unfold maxLen at hmx hmy
  by_cases hl : ys.length = xs.length
  · rw [hl] at hcy hy ⊢
    have HL : Hid (ys.length = xs.length) := hl
    clear hl
    generalize hn : xs.length = n at *
    have HN : Hid (xs.length = n) := hn
    clear hn
    go_enter Try.func48, Try.ntmps48
    go_wp2
    go_loopw [5] (fun i w' => ∃ k : Nat, k ≤ n ∧ i = .int .i64 k ∧ (∀ j, j < k → xs.getD j default = ys.getD j default) ∧ Below w.heap.size w w') (fun i _ => n - (intOf i).toNat)
    case atStart => exact ⟨0, Nat.zero_le _, rfl, fun j h => absurd h (Nat.not_lt_zero _), Below.refl _ _⟩
    case round =>
      obtain ⟨k, hk, rfl, hpre, hbl⟩ := hrel
      have HP : Hid (∀ j, j < k → xs.getD j default = ys.getD j default) := hpre
      clear hpre
      by_cases hlt : k < n
      · obtain ⟨bx, ox, ux, rfl, _, p1, hvx⟩ := hx k hlt
        obtain ⟨b2, oy, uy, rfl, _, p2, hvy⟩ := hy k hlt
        obtain ⟨l1, hl1⟩ : ∃ l, l = xs.getD k default := ⟨_, rfl⟩
        obtain ⟨l2, hl2⟩ : ∃ l, l = ys.getD k default := ⟨_, rfl⟩
        rw [← hl1] at hvx
        rw [← hl2] at hvy
        have H1 : Hid (l1 = xs.getD k default) := hl1
        have H2 : Hid (l2 = ys.getD k default) := hl2
        have hvx' := hvx
        obtain ⟨ux1, ux2, ux3, ux4, ux5, rfl, _, _, _, _, _⟩ := hvx'
        have hvy' := hvy
        obtain ⟨uy1, uy2, uy3, uy4, uy5, rfl, _, _, _, _, _⟩ := hvy'
        have g0 : w.cell? ⟨bx, ox + k * 6, none⟩ = some (.int .i64 l1.idx) := p1 0 (by omega)
        have g1 : w.cell? ⟨bx, ox + k * 6 + 1, none⟩ = some (ux1) := p1 1 (by omega)
        have g2 : w.cell? ⟨bx, ox + k * 6 + 2, none⟩ = some (ux2) := p1 2 (by omega)
        have g3 : w.cell? ⟨bx, ox + k * 6 + 3, none⟩ = some (ux3) := p1 3 (by omega)
        have g4 : w.cell? ⟨bx, ox + k * 6 + 4, none⟩ = some (ux4) := p1 4 (by omega)
        have g5 : w.cell? ⟨bx, ox + k * 6 + 5, none⟩ = some (ux5) := p1 5 (by omega)
        have g6 : w.cell? ⟨b2, oy + k * 6, none⟩ = some (.int .i64 l2.idx) := p2 0 (by omega)
        have g7 : w.cell? ⟨b2, oy + k * 6 + 1, none⟩ = some (uy1) := p2 1 (by omega)
        have g8 : w.cell? ⟨b2, oy + k * 6 + 2, none⟩ = some (uy2) := p2 2 (by omega)
        have g9 : w.cell? ⟨b2, oy + k * 6 + 3, none⟩ = some (uy3) := p2 3 (by omega)
        have g10 : w.cell? ⟨b2, oy + k * 6 + 4, none⟩ = some (uy4) := p2 4 (by omega)
        have g11 : w.cell? ⟨b2, oy + k * 6 + 5, none⟩ = some (uy5) := p2 5 (by omega)
        clear hl1 hl2 hx hy p1 p2
        go_wp2
        go_region_held3 (fun w' => Below w.heap.size w w' ∧ w'.cell? ⟨bx, ox + k * 6, none⟩ = some (.int .i64 l1.idx) ∧ w'.cell? ⟨bx, ox + k * 6 + 1, none⟩ = some (ux1) ∧ w'.cell? ⟨bx, ox + k * 6 + 2, none⟩ = some (ux2) ∧ w'.cell? ⟨bx, ox + k * 6 + 3, none⟩ = some (ux3) ∧ w'.cell? ⟨bx, ox + k * 6 + 4, none⟩ = some (ux4) ∧ w'.cell? ⟨bx, ox + k * 6 + 5, none⟩ = some (ux5) ∧ w'.cell? ⟨b2, oy + k * 6, none⟩ = some (.int .i64 l2.idx) ∧ w'.cell? ⟨b2, oy + k * 6 + 1, none⟩ = some (uy1) ∧ w'.cell? ⟨b2, oy + k * 6 + 2, none⟩ = some (uy2) ∧ w'.cell? ⟨b2, oy + k * 6 + 3, none⟩ = some (uy3) ∧ w'.cell? ⟨b2, oy + k * 6 + 4, none⟩ = some (uy4) ∧ w'.cell? ⟨b2, oy + k * 6 + 5, none⟩ = some (uy5)) ((refine keepShds ?_ g0 g1 g2 g3 g4 g5 g6 g7 g8 g9 g10 g11; (repeat (first | exact Below.refl _ _ | assumption | refine Below.drew ?_ | refine balloc ?_ _ | refine bstep ?_ (by assumption))))) (first | (go_at_call 66; refine (eqShard_u (.agg #[.int .i64 l1.idx, ux1, ux2, ux3, ux4, ux5]) (.agg #[.int .i64 l2.idx, uy1, uy2, uy3, uy4, uy5]) l1 l2 _ (shdR.below hvx (by (repeat (first | exact Below.refl _ _ | assumption | refine Below.drew ?_ | refine balloc ?_ _ | refine bstep ?_ (by assumption))))) (shdR.below hvy (by (repeat (first | exact Below.refl _ _ | assumption | refine Below.drew ?_ | refine balloc ?_ _ | refine bstep ?_ (by assumption)))))).mono ?_; rintro e w' ⟨rfl, hb1⟩))
        rename_i hH
        have hB := hH.1
        clear hH
        go_wp2
        · rename_i hle
          go_ret
          refine ⟨?_, hB⟩
          have : ¬ xs = ys := fun h => by
            have : l1 = l2 := by rw [H1.out, H2.out, h]
            simp [this] at hle
          simp [this]
        · rename_i hle
          refine ⟨⟨k + 1, by omega, by go_num, fun j hj => ?_, hB⟩, by simp [intOf]; omega⟩
          by_cases hjk : j < k
          · exact HP.out j hjk
          · have : j = k := by omega
            subst this
            rw [← H1.out, ← H2.out]
            simpa using hle
      · go_wp2
        go_ret
        have : k = n := by omega
        subst this
        refine ⟨?_, hbl⟩
        have : xs = ys := rows_eq_of (by rw [HL.out, HN.out]) (by rw [HN.out]; exact HP.out)
        simp [this]
  · go_enter Try.func48, Try.ntmps48
    have hl' : ((xs.length : Int) == (ys.length : Int)) = false := by simp; omega
    go_wp2
    go_ret
    have : ¬ xs = ys := fun h => hl (by rw [h])
    exact ⟨by simp [this], Below.refl _ _⟩
set_option maxHeartbeats 1000000 in
theorem heldShardS_u (v : Value) (xs : List Shd) (k : Int) (w : World) (hv : shdsR.V w v (mkShds k xs)) (hw : wtShds xs ≤ 1048576) (hn : k + cntShds xs ≤ 1073741824) (hk0 : 0 ≤ k) :
    Calls Try.prog 59 #[v, .int .i64 k] w fun r w' => r = .returned (.int .i64 (k + cntShds xs)) ∧ Below w.heap.size w w' := by
  obtain ⟨a, cap, rfl, hnc, hcm, hc⟩ := hv
  unfold mkShds at hnc hc ⊢
  rw [length_mkL] at hnc hc ⊢
  unfold maxLen at hcm
  have hW : ∀ k, k < xs.length → wtShd (xs.getD k default) ≤ 1048576 := fun k hk => (wt_at hw hk).1
  unfold cntShds cntL at hn ⊢
  have HT : Hid (∀ j, j < xs.length → (mkL mkElShd cntElShd k xs).getD j default = mkElShd (k + cntTo cntElShd j xs) (xs.getD j default) ∧ cntTo cntElShd (j + 1) xs = cntTo cntElShd j xs + cntElShd (xs.getD j default) ∧ cntTo cntElShd (j + 1) xs ≤ cntTo cntElShd xs.length xs) :=
    fun j hj => ⟨getD_mkL _ _ _ _ _ hj, cntTo_succ _ j xs hj, cntTo_le _ _ _ _ hj⟩
  clear hw
  generalize xs.length = n at *
  go_enter Try.func59, Try.ntmps59
  go_wp2
  go_loopw [1, 5] (fun q i w' => ∃ j : Nat, j ≤ n ∧ i = .int .i64 j ∧ q = .int .i64 (k + cntTo cntElShd j xs) ∧ Below w.heap.size w w') (fun _ i _ => n - (intOf i).toNat)
  case atStart => exact ⟨0, Nat.zero_le _, rfl, by simp [cntTo], Below.refl _ _⟩
  case round =>
    obtain ⟨j, hj, rfl, rfl, hbl⟩ := hrel
    by_cases hlt : j < n
    · obtain ⟨bx, ox, ux, rfl, _, p1, hvx⟩ := hc j hlt
      obtain ⟨t1, t2, t3⟩ := HT.out j hlt
      have hw1 := hW j hlt
      rw [t1] at hvx
      generalize xs.getD j default = l at *
      have tC : cntElShd l = 1 + cntBals l.bals + cntMrks l.votes + cntConts l.held + cntMrks l.done + cntInts l.appl := rfl
      rw [tC] at t2
      have tW : wtShd l = wtBals l.bals + wtMrks l.votes + wtConts l.held + wtMrks l.done + wtInts l.appl := rfl
      rw [tW] at hw1
      clear tC tW
      obtain ⟨q, hq⟩ : ∃ q, q = k + cntTo cntElShd j xs := ⟨_, rfl⟩
      have hq0 : 0 ≤ q := by omega
      rw [← hq] at hvx ⊢
      have T2 : Hid (k + cntTo cntElShd (j + 1) xs = q + 1 + cntBals l.bals + cntMrks l.votes + cntConts l.held + cntMrks l.done + cntInts l.appl) := by show _ = _; omega
      have hq1 : q + 1 + cntBals l.bals + cntMrks l.votes + cntConts l.held + cntMrks l.done + cntInts l.appl ≤ 1073741824 := by omega
      obtain ⟨ux1, ux2, ux3, ux4, ux5, rfl, hv1, hv2, hv3, hv4, hv5⟩ := hvx
      dsimp only [mkElShd] at hv1 hv2 hv3 hv4 hv5
      have g0 : w.cell? ⟨bx, ox + j * 6, none⟩ = some (.int .i64 (q)) := p1 0 (by omega)
      replace g0 := cell_keep hbl g0
      have g1 : w.cell? ⟨bx, ox + j * 6 + 1, none⟩ = some (ux1) := p1 1 (by omega)
      replace g1 := cell_keep hbl g1
      have g2 : w.cell? ⟨bx, ox + j * 6 + 2, none⟩ = some (ux2) := p1 2 (by omega)
      replace g2 := cell_keep hbl g2
      have g3 : w.cell? ⟨bx, ox + j * 6 + 3, none⟩ = some (ux3) := p1 3 (by omega)
      replace g3 := cell_keep hbl g3
      have g4 : w.cell? ⟨bx, ox + j * 6 + 4, none⟩ = some (ux4) := p1 4 (by omega)
      replace g4 := cell_keep hbl g4
      have g5 : w.cell? ⟨bx, ox + j * 6 + 5, none⟩ = some (ux5) := p1 5 (by omega)
      replace g5 := cell_keep hbl g5
      clear hc p1 t1 t2 t3 hW hq
      go_wp2_with fail
      refine (heldBalanceS_u ux1 l.bals (q + 1) _ (balsR.below hv1 (by (repeat (first | exact Below.refl _ _ | assumption | refine Below.drew ?_ | refine balloc ?_ _ | refine bstep ?_ (by assumption))))) (by omega) (by omega) (by omega)).mono ?_
      rintro e wb1 ⟨rfl, b1⟩
      replace g2 := cell_keep b1 g2
      replace g3 := cell_keep b1 g3
      replace g4 := cell_keep b1 g4
      replace g5 := cell_keep b1 g5
      go_wp2_with fail
      refine (heldMarkS_u ux2 l.votes (q + 1 + cntBals l.bals) _ (mrksR.below hv2 (by (repeat (first | exact Below.refl _ _ | assumption | refine Below.drew ?_ | refine balloc ?_ _ | refine bstep ?_ (by assumption))))) (by omega) (by omega) (by omega)).mono ?_
      rintro e wb2 ⟨rfl, b2⟩
      replace g3 := cell_keep b2 g3
      replace g4 := cell_keep b2 g4
      replace g5 := cell_keep b2 g5
      go_wp2_with fail
      refine (heldContractS_u ux3 l.held (q + 1 + cntBals l.bals + cntMrks l.votes) _ (contsR.below hv3 (by (repeat (first | exact Below.refl _ _ | assumption | refine Below.drew ?_ | refine balloc ?_ _ | refine bstep ?_ (by assumption))))) (by omega) (by omega) (by omega)).mono ?_
      rintro e wb3 ⟨rfl, b3⟩
      replace g4 := cell_keep b3 g4
      replace g5 := cell_keep b3 g5
      go_wp2_with fail
      refine (heldMarkS_u ux4 l.done (q + 1 + cntBals l.bals + cntMrks l.votes + cntConts l.held) _ (mrksR.below hv4 (by (repeat (first | exact Below.refl _ _ | assumption | refine Below.drew ?_ | refine balloc ?_ _ | refine bstep ?_ (by assumption))))) (by omega) (by omega) (by omega)).mono ?_
      rintro e wb4 ⟨rfl, b4⟩
      replace g5 := cell_keep b4 g5
      go_wp2_with fail
      refine (heldInt64S_u ux5 l.appl (q + 1 + cntBals l.bals + cntMrks l.votes + cntConts l.held + cntMrks l.done) _ (intsR.below hv5 (by (repeat (first | exact Below.refl _ _ | assumption | refine Below.drew ?_ | refine balloc ?_ _ | refine bstep ?_ (by assumption))))) (by omega) (by omega) (by omega)).mono ?_
      rintro e wb5 ⟨rfl, b5⟩
      go_wp2
      refine ⟨⟨j + 1, by omega, by go_num, ?_, by (repeat (first | exact Below.refl _ _ | assumption | refine Below.drew ?_ | refine balloc ?_ _ | refine bstep ?_ (by assumption)))⟩, by simp [intOf]; omega⟩
      rw [T2.out]
    · go_wp2
      go_ret
      have hjn : j = n := by omega
      subst hjn
      exact ⟨rfl, hbl⟩
set_option maxHeartbeats 1000000 in
theorem markShardS_u (v : Value) (xs : List Shd) (base : Nat) (F : Nat → Prop) (k : Int) (w : World) (ho : shdsR.O w base F v xs) (hw : wtShds xs ≤ 1048576) (hn : k + cntShds xs ≤ 1073741824) (hk0 : 0 ≤ k) :
    Calls Try.prog 53 #[v, .int .i64 k] w fun r w' => r = .returned (.int .i64 (k + cntShds xs)) ∧ shdsR.O w' base F v (mkShds k xs) ∧ Mod F w w' := by
  obtain ⟨cs, us, fs, hp, hF⟩ := ho
  have hW : ∀ k, k < xs.length → wtShd (xs.getD k default) ≤ 1048576 := fun k hk => (wt_at hw hk).1
  unfold cntShds cntL at hn ⊢
  have HT : Hid (∀ j, j < xs.length → (mkL mkElShd cntElShd k xs).getD j default = mkElShd (k + cntTo cntElShd j xs) (xs.getD j default) ∧ cntTo cntElShd (j + 1) xs = cntTo cntElShd j xs + cntElShd (xs.getD j default) ∧ cntTo cntElShd (j + 1) xs ≤ cntTo cntElShd xs.length xs) :=
    fun j hj => ⟨getD_mkL _ _ _ _ _ hj, cntTo_succ _ j xs hj, cntTo_le _ _ _ _ hj⟩
  clear hw
  have hcap := hp.len
  obtain ⟨av, cv, hav⟩ := owns_form hp.row
  subst hav
  have HF : Hid (∀ b, F b ↔ ((Value.slice av xs.length cv).ownBlock = some b ∨ ∃ i, i < xs.length ∧ fs i b)) := hF
  have HM : Hid ((mkL mkElShd cntElShd k xs).length = xs.length) := length_mkL _ _ _ _
  clear hF
  generalize hxl : xs.length = n at *
  clear hxl
  go_enter Try.func53, Try.ntmps53
  go_wp2
  go_loopw [1, 5] (fun q i w' => ∃ (j : Nat) (cs : List Value) (us : Nat → Value), j ≤ n ∧ i = .int .i64 j ∧ q = .int .i64 (k + cntTo cntElShd j xs) ∧ PO shdR 94 6 lvShd w' base (.slice av n cv) n n (fun i => if i < j then (mkL mkElShd cntElShd k xs).getD i default else xs.getD i default) cs us fs ∧ Mod F w w') (fun _ i _ => n - (intOf i).toNat)
  case atStart => exact ⟨0, cs, us, Nat.zero_le _, rfl, by simp [cntTo], hp.cast (fun i hi => by simp), Mod.refl _ _⟩
  case round =>
    clear hp
    obtain ⟨j, cs, us, hj, rfl, rfl, hp1, hm⟩ := hrel
    by_cases hlt : j < n
    · have he := hp1.el j hlt
      simp only [Nat.lt_irrefl, if_false] at he
      obtain ⟨g, rfl, hcl⟩ := hp1.at hlt hlt
      obtain ⟨t1, t2, t3⟩ := HT.out j hlt
      have hw1 := hW j hlt
      obtain ⟨l, hl⟩ : ∃ l, l = xs.getD j default := ⟨_, rfl⟩
      rw [← hl] at t1 t2 hw1 he
      have tC : cntElShd l = 1 + cntBals l.bals + cntMrks l.votes + cntConts l.held + cntMrks l.done + cntInts l.appl := rfl
      rw [tC] at t2
      have tW : wtShd l = wtBals l.bals + wtMrks l.votes + wtConts l.held + wtMrks l.done + wtInts l.appl := rfl
      rw [tW] at hw1
      clear tC tW
      obtain ⟨q, hq⟩ : ∃ q, q = k + cntTo cntElShd j xs := ⟨_, rfl⟩
      have hq0 : 0 ≤ q := by omega
      rw [← hq] at t1 ⊢
      have T1 : Hid ((mkL mkElShd cntElShd k xs).getD j default = mkElShd q l) := t1
      have T2 : Hid (k + cntTo cntElShd (j + 1) xs = q + 1 + cntBals l.bals + cntMrks l.votes + cntConts l.held + cntMrks l.done + cntInts l.appl) := by show _ = _; omega
      have hq1 : q + 1 + cntBals l.bals + cntMrks l.votes + cntConts l.held + cntMrks l.done + cntInts l.appl ≤ 1073741824 := by omega
      obtain ⟨ux1, ux2, ux3, ux4, ux5, F1, F2, F3, F4, F5, hu, h1, h2, h3, h4, h5, s12, s13, s14, s15, s23, s24, s25, s34, s35, s45, hF⟩ := he
      rw [hu] at hcl
      have g0 : wr.cell? ⟨g, j * 6, none⟩ = some (.int .i64 l.idx) := hcl 0 (by omega)
      have g1 : wr.cell? ⟨g, j * 6 + 1, none⟩ = some (ux1) := hcl 1 (by omega)
      have g2 : wr.cell? ⟨g, j * 6 + 2, none⟩ = some (ux2) := hcl 2 (by omega)
      have g3 : wr.cell? ⟨g, j * 6 + 3, none⟩ = some (ux3) := hcl 3 (by omega)
      have g4 : wr.cell? ⟨g, j * 6 + 4, none⟩ = some (ux4) := hcl 4 (by omega)
      have g5 : wr.cell? ⟨g, j * 6 + 5, none⟩ = some (ux5) := hcl 5 (by omega)
      have hrow := hp1.row
      have hclen := hrow.1
      have hf := fun j => hrow.frozenAt j
      clear hl t1 t2 t3 hW hq hcl
      go_wp2_with fail
      have st1 := hrow.stored (j * 6) (.int .i64 (q))
      replace h1 := balsR.mod h1 (Mod.of_grown st1.2) (fun b hb he => hp1.out j hlt b ((hF b).2 (.inl hb)) he)
      replace h2 := mrksR.mod h2 (Mod.of_grown st1.2) (fun b hb he => hp1.out j hlt b ((hF b).2 (.inr (.inl hb))) he)
      replace h3 := contsR.mod h3 (Mod.of_grown st1.2) (fun b hb he => hp1.out j hlt b ((hF b).2 (.inr (.inr (.inl hb)))) he)
      replace h4 := mrksR.mod h4 (Mod.of_grown st1.2) (fun b hb he => hp1.out j hlt b ((hF b).2 (.inr (.inr (.inr (.inl hb))))) he)
      replace h5 := intsR.mod h5 (Mod.of_grown st1.2) (fun b hb he => hp1.out j hlt b ((hF b).2 (.inr (.inr (.inr (.inr hb))))) he)
      have M1 := (Mod.of_grown st1.2).mono (G := fun b => (Value.slice (some ⟨g, 0, none⟩) n cv).ownBlock = some b ∨ fs j b) (fun b hb => .inl hb)
      refine (markBalanceS_u ux1 l.bals base F1 (q + 1) _ h1 (by omega) (by omega) (by omega)).mono ?_
      rintro e wb1 ⟨rfl, r1, m1⟩
      have rw1 := m1.owns st1.1 (fun b he hb => hp1.out j hlt b ((hF b).2 (.inl hb)) he)
      replace h2 := mrksR.mod h2 m1 (fun b p q => s12 b q p)
      replace h3 := contsR.mod h3 m1 (fun b p q => s13 b q p)
      replace h4 := mrksR.mod h4 m1 (fun b p q => s14 b q p)
      replace h5 := intsR.mod h5 m1 (fun b p q => s15 b q p)
      have M2 := m1.mono (G := fun b => (Value.slice (some ⟨g, 0, none⟩) n cv).ownBlock = some b ∨ fs j b) (fun b hb => .inr ((hF b).2 (.inl hb)))
      replace g2 : wb1.cell? ⟨g, j * 6 + 2, none⟩ = some (ux2) := m1.cell (by first | exact g2 | simp [go_sem, g2]) (fun hb => hp1.out j hlt g ((hF g).2 (.inl hb)) rfl)
      replace g3 : wb1.cell? ⟨g, j * 6 + 3, none⟩ = some (ux3) := m1.cell (by first | exact g3 | simp [go_sem, g3]) (fun hb => hp1.out j hlt g ((hF g).2 (.inl hb)) rfl)
      replace g4 : wb1.cell? ⟨g, j * 6 + 4, none⟩ = some (ux4) := m1.cell (by first | exact g4 | simp [go_sem, g4]) (fun hb => hp1.out j hlt g ((hF g).2 (.inl hb)) rfl)
      replace g5 : wb1.cell? ⟨g, j * 6 + 5, none⟩ = some (ux5) := m1.cell (by first | exact g5 | simp [go_sem, g5]) (fun hb => hp1.out j hlt g ((hF g).2 (.inl hb)) rfl)
      replace hf := fun j => rw1.frozenAt j
      go_wp2_with fail
      refine (markMarkS_u ux2 l.votes base F2 (q + 1 + cntBals l.bals) _ h2 (by omega) (by omega) (by omega)).mono ?_
      rintro e wb2 ⟨rfl, r2, m2⟩
      have rw2 := m2.owns rw1 (fun b he hb => hp1.out j hlt b ((hF b).2 (.inr (.inl hb))) he)
      replace r1 := balsR.mod r1 m2 (fun b p q => s12 b p q)
      replace h3 := contsR.mod h3 m2 (fun b p q => s23 b q p)
      replace h4 := mrksR.mod h4 m2 (fun b p q => s24 b q p)
      replace h5 := intsR.mod h5 m2 (fun b p q => s25 b q p)
      have M3 := m2.mono (G := fun b => (Value.slice (some ⟨g, 0, none⟩) n cv).ownBlock = some b ∨ fs j b) (fun b hb => .inr ((hF b).2 (.inr (.inl hb))))
      replace g3 : wb2.cell? ⟨g, j * 6 + 3, none⟩ = some (ux3) := m2.cell (by first | exact g3 | simp [go_sem, g3]) (fun hb => hp1.out j hlt g ((hF g).2 (.inr (.inl hb))) rfl)
      replace g4 : wb2.cell? ⟨g, j * 6 + 4, none⟩ = some (ux4) := m2.cell (by first | exact g4 | simp [go_sem, g4]) (fun hb => hp1.out j hlt g ((hF g).2 (.inr (.inl hb))) rfl)
      replace g5 : wb2.cell? ⟨g, j * 6 + 5, none⟩ = some (ux5) := m2.cell (by first | exact g5 | simp [go_sem, g5]) (fun hb => hp1.out j hlt g ((hF g).2 (.inr (.inl hb))) rfl)
      replace hf := fun j => rw2.frozenAt j
      go_wp2_with fail
      refine (markContractS_u ux3 l.held base F3 (q + 1 + cntBals l.bals + cntMrks l.votes) _ h3 (by omega) (by omega) (by omega)).mono ?_
      rintro e wb3 ⟨rfl, r3, m3⟩
      have rw3 := m3.owns rw2 (fun b he hb => hp1.out j hlt b ((hF b).2 (.inr (.inr (.inl hb)))) he)
      replace r1 := balsR.mod r1 m3 (fun b p q => s13 b p q)
      replace r2 := mrksR.mod r2 m3 (fun b p q => s23 b p q)
      replace h4 := mrksR.mod h4 m3 (fun b p q => s34 b q p)
      replace h5 := intsR.mod h5 m3 (fun b p q => s35 b q p)
      have M4 := m3.mono (G := fun b => (Value.slice (some ⟨g, 0, none⟩) n cv).ownBlock = some b ∨ fs j b) (fun b hb => .inr ((hF b).2 (.inr (.inr (.inl hb)))))
      replace g4 : wb3.cell? ⟨g, j * 6 + 4, none⟩ = some (ux4) := m3.cell (by first | exact g4 | simp [go_sem, g4]) (fun hb => hp1.out j hlt g ((hF g).2 (.inr (.inr (.inl hb)))) rfl)
      replace g5 : wb3.cell? ⟨g, j * 6 + 5, none⟩ = some (ux5) := m3.cell (by first | exact g5 | simp [go_sem, g5]) (fun hb => hp1.out j hlt g ((hF g).2 (.inr (.inr (.inl hb)))) rfl)
      replace hf := fun j => rw3.frozenAt j
      go_wp2_with fail
      refine (markMarkS_u ux4 l.done base F4 (q + 1 + cntBals l.bals + cntMrks l.votes + cntConts l.held) _ h4 (by omega) (by omega) (by omega)).mono ?_
      rintro e wb4 ⟨rfl, r4, m4⟩
      have rw4 := m4.owns rw3 (fun b he hb => hp1.out j hlt b ((hF b).2 (.inr (.inr (.inr (.inl hb))))) he)
      replace r1 := balsR.mod r1 m4 (fun b p q => s14 b p q)
      replace r2 := mrksR.mod r2 m4 (fun b p q => s24 b p q)
      replace r3 := contsR.mod r3 m4 (fun b p q => s34 b p q)
      replace h5 := intsR.mod h5 m4 (fun b p q => s45 b q p)
      have M5 := m4.mono (G := fun b => (Value.slice (some ⟨g, 0, none⟩) n cv).ownBlock = some b ∨ fs j b) (fun b hb => .inr ((hF b).2 (.inr (.inr (.inr (.inl hb))))))
      replace g5 : wb4.cell? ⟨g, j * 6 + 5, none⟩ = some (ux5) := m4.cell (by first | exact g5 | simp [go_sem, g5]) (fun hb => hp1.out j hlt g ((hF g).2 (.inr (.inr (.inr (.inl hb))))) rfl)
      replace hf := fun j => rw4.frozenAt j
      go_wp2_with fail
      refine (markInt64S_u ux5 l.appl base F5 (q + 1 + cntBals l.bals + cntMrks l.votes + cntConts l.held + cntMrks l.done) _ h5 (by omega) (by omega) (by omega)).mono ?_
      rintro e wb5 ⟨rfl, r5, m5⟩
      have rw5 := m5.owns rw4 (fun b he hb => hp1.out j hlt b ((hF b).2 (.inr (.inr (.inr (.inr hb))))) he)
      replace r1 := balsR.mod r1 m5 (fun b p q => s15 b p q)
      replace r2 := mrksR.mod r2 m5 (fun b p q => s25 b p q)
      replace r3 := contsR.mod r3 m5 (fun b p q => s35 b p q)
      replace r4 := mrksR.mod r4 m5 (fun b p q => s45 b p q)
      have M6 := m5.mono (G := fun b => (Value.slice (some ⟨g, 0, none⟩) n cv).ownBlock = some b ∨ fs j b) (fun b hb => .inr ((hF b).2 (.inr (.inr (.inr (.inr hb))))))
      go_wp2
      have hq := hp1.turn (u := (.agg #[.int .i64 (q), ux1, ux2, ux3, ux4, ux5])) (x := mkElShd q l) hlt (((((M1.trans M2).trans M3).trans M4).trans M5).trans M6) ⟨ux1, ux2, ux3, ux4, ux5, F1, F2, F3, F4, F5, rfl, r1, r2, r3, r4, r5, s12, s13, s14, s15, s23, s24, s25, s34, s35, s45, hF⟩ rfl rw5 ?_ ?_
      · refine ⟨⟨j + 1, _, _, by omega, by go_num, by rw [T2.out], hq.cast fun i hi => ?_, hm.trans ((((((M1.trans M2).trans M3).trans M4).trans M5).trans M6).mono fun b hb => (HF.out b).2 ?_)⟩, by simp [intOf]; omega⟩
        · by_cases hij : i = j
          · subst hij
            rw [upd_at, if_pos (by omega)]
            exact T1.out
          · rw [upd_ne _ _ hij]
            by_cases h : i < j
            · rw [if_pos h, if_pos (by omega)]
            · rw [if_neg h, if_neg (by omega)]
        · rcases hb with hb | hb
          · exact .inl hb
          · exact .inr ⟨j, hlt, hb⟩
      · intro i hi hij o ho
        simp only [List.getElem?_set]
        rw [if_neg (by omega)]
      · intro o ho
        have ho' : o = 0 ∨ o = 1 ∨ o = 2 ∨ o = 3 ∨ o = 4 ∨ o = 5 := by omega
        rcases ho' with rfl | rfl | rfl | rfl | rfl | rfl
        · rw [show j * 6 + 0 = j * 6 from rfl, List.getElem?_set_self (by (try simp only [List.length_set]); omega)]
          rfl
        · rw [List.getElem?_set_ne (by omega), hp1.cell j hlt 1 (by omega), hu]
          rfl
        · rw [List.getElem?_set_ne (by omega), hp1.cell j hlt 2 (by omega), hu]
          rfl
        · rw [List.getElem?_set_ne (by omega), hp1.cell j hlt 3 (by omega), hu]
          rfl
        · rw [List.getElem?_set_ne (by omega), hp1.cell j hlt 4 (by omega), hu]
          rfl
        · rw [List.getElem?_set_ne (by omega), hp1.cell j hlt 5 (by omega), hu]
          rfl
    · go_wp2
      go_ret
      have hjn : j = n := by omega
      subst hjn
      refine ⟨rfl, ⟨cs, us, fs, ?_, ?_⟩, hm⟩
      · unfold mkShds
        rw [HM.out]
        exact hp1.cast (fun i hi => by rw [if_pos hi])
      · unfold mkShds
        rw [HM.out]
        exact HF.out
end Go.Proofs.Ytjemciikdijokaa

