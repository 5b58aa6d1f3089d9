import Derived.Test.YtjemciikdijokaaPrnOpenSessionLaw1
import Derived.Deep.RegionHeld3
import Derived.Deep.DrawnRows
import Derived.Test.YtjemciikdijokaaPrnOpenSessionLaw2
import Derived.Test.YtjemciikdijokaaPrnOpenSessionLaw7

/-
  Slices of Heard: the law's own copy, comparison, count, marks. (Written by program after my texts on legs.)
-/
namespace Go.Proofs.Ytjemciikdijokaa
open Go.RowKit
set_option linter.unusedSectionVars false
attribute [local go_sem ↓] Go.wp_at_zero Go.wp_at_succ

structure Hrd where
  con : Int
  sh : Int
  bal : Int
  val : Int
  frm : Int
variable [DecidableEq Hrd] [Inhabited Hrd]

def hrdV (x : Hrd) : Value := .agg #[.int .i64 x.con, .int .i64 x.sh, .int .i64 x.bal, .int .i64 x.val, .int .i64 x.frm]
set_option maxHeartbeats 400000 in
theorem eqHeard_any (x y : Hrd) (w : World) :
    Calls Try.prog 97 #[hrdV x, hrdV y] w fun e w' => e = .returned (.bool (decide (x = y))) ∧ Below w.heap.size w w' := by
  obtain ⟨a, b, c, d, e⟩ := x
  obtain ⟨a', b', c', d', e'⟩ := y
  unfold hrdV
  go_enter Try.func97, Try.ntmps97
  go_wp2
  all_goals
    go_ret
    exact ⟨by simp_all, balloc (balloc (Below.refl _ _) _) _⟩
def hrdCells (w : World) (b o : Nat) (x : Hrd) : Prop := w.cell? ⟨b, o, none⟩ = some (.int .i64 x.con) ∧ w.cell? ⟨b, o + 1, none⟩ = some (.int .i64 x.sh) ∧ w.cell? ⟨b, o + 2, none⟩ = some (.int .i64 x.bal) ∧ w.cell? ⟨b, o + 3, none⟩ = some (.int .i64 x.val) ∧ w.cell? ⟨b, o + 4, none⟩ = some (.int .i64 x.frm)
def HrdsV (w : World) (v : Value) (xs : List Hrd) : Prop :=
  ∃ a cap, v = .slice a xs.length cap ∧ xs.length ≤ cap ∧ cap ≤ maxLen ∧ ∀ i, i < xs.length → ∃ b o, a = some ⟨b, o, none⟩ ∧ hrdCells w b (o + i * 5) (xs.getD i default)
theorem hrdCells_below {w w' : World} {b o : Nat} {x : Hrd} (hb : Below w.heap.size w w') (h : hrdCells w b o x) : hrdCells w' b o x := by
  obtain ⟨h0, h1, h2, h3, h4⟩ := h
  exact ⟨cell_keep hb h0, cell_keep hb h1, cell_keep hb h2, cell_keep hb h3, cell_keep hb h4⟩
theorem HrdsV_below {w w' : World} {v : Value} {xs : List Hrd} (h : HrdsV w v xs) (hb : Below w.heap.size w w') : HrdsV w' v xs := by
  obtain ⟨a, cap, rfl, h1, h2, h3⟩ := h
  exact ⟨a, cap, rfl, h1, h2, fun i hi => by
    obtain ⟨b, o, ha, hc⟩ := h3 i hi
    exact ⟨b, o, ha, hrdCells_below hb hc⟩⟩
theorem hrdKeep2 {w w' : World} {b o b' o' : Nat} {x y : Hrd} (hb : Below w.heap.size w w') (h : hrdCells w b o x) (h' : hrdCells w b' o' y) :
    Below w.heap.size w w' ∧ (w'.cell? ⟨b, o, none⟩ = some (.int .i64 x.con) ∧ w'.cell? ⟨b, o + 1, none⟩ = some (.int .i64 x.sh) ∧ w'.cell? ⟨b, o + 2, none⟩ = some (.int .i64 x.bal) ∧ w'.cell? ⟨b, o + 3, none⟩ = some (.int .i64 x.val) ∧ w'.cell? ⟨b, o + 4, none⟩ = some (.int .i64 x.frm)) ∧ (w'.cell? ⟨b', o', none⟩ = some (.int .i64 y.con) ∧ w'.cell? ⟨b', o' + 1, none⟩ = some (.int .i64 y.sh) ∧ w'.cell? ⟨b', o' + 2, none⟩ = some (.int .i64 y.bal) ∧ w'.cell? ⟨b', o' + 3, none⟩ = some (.int .i64 y.val) ∧ w'.cell? ⟨b', o' + 4, none⟩ = some (.int .i64 y.frm)) :=
  ⟨hb, hrdCells_below hb h, hrdCells_below hb h'⟩
theorem hrds_eq_of {xs ys : List Hrd} (hl : ys.length = xs.length) (h : ∀ j, j < xs.length → xs.getD j default = ys.getD j default) : xs = ys := by
  apply List.ext_getElem (by omega)
  intro i h1 h2
  have := h i h1
  simpa [List.getD, h1, h2] using this
set_option maxHeartbeats 1000000 in
theorem eqHeardS_any (x y : Value) (xs ys : List Hrd) (w : World) (hx : HrdsV w x xs) (hy : HrdsV w y ys) :
    Calls Try.prog 88 #[x, y] w fun e w' => e = .returned (.bool (decide (xs = ys))) ∧ Below w.heap.size w w' := by
  obtain ⟨ax, cx, rfl, hcx, hmx, hx⟩ := hx
  obtain ⟨ay, cy, rfl, hcy, hmy, hy⟩ := hy
  unfold maxLen at hmx hmy
  by_cases hl : ys.length = xs.length
  · rw [hl] at hcy hy ⊢
    have HL : Hid (ys.length = xs.length) := hl
    clear hl
    generalize hn : xs.length = n at *
    have HN : Hid (xs.length = n) := hn
    clear hn
    go_enter Try.func88, Try.ntmps88
    go_wp2
    go_loopw [5] (fun i w' => ∃ k : Nat, k ≤ n ∧ i = .int .i64 k ∧ (∀ j, j < k → xs.getD j default = ys.getD j default) ∧ Below w.heap.size w w') (fun i _ => n - (intOf i).toNat)
    case atStart => exact ⟨0, Nat.zero_le _, rfl, fun j h => absurd h (Nat.not_lt_zero _), Below.refl _ _⟩
    case round =>
      obtain ⟨k, hk, rfl, hpre, hbl⟩ := hrel
      have HP : Hid (∀ j, j < k → xs.getD j default = ys.getD j default) := hpre
      clear hpre
      by_cases hlt : k < n
      · obtain ⟨bx, ox, rfl, h1⟩ := hx k hlt
        obtain ⟨b2, oy, rfl, h2⟩ := hy k hlt
        obtain ⟨l1, hl1⟩ : ∃ l, l = xs.getD k default := ⟨_, rfl⟩
        obtain ⟨l2, hl2⟩ : ∃ l, l = ys.getD k default := ⟨_, rfl⟩
        rw [← hl1] at h1
        rw [← hl2] at h2
        have H1 : Hid (l1 = xs.getD k default) := hl1
        have H2 : Hid (l2 = ys.getD k default) := hl2
        clear hl1 hl2 hx hy
        go_wp2
        go_region_held3 (fun w' => Below w.heap.size w w' ∧ (w'.cell? ⟨bx, ox + k * 5, none⟩ = some (.int .i64 l1.con) ∧ w'.cell? ⟨bx, ox + k * 5 + 1, none⟩ = some (.int .i64 l1.sh) ∧ w'.cell? ⟨bx, ox + k * 5 + 2, none⟩ = some (.int .i64 l1.bal) ∧ w'.cell? ⟨bx, ox + k * 5 + 3, none⟩ = some (.int .i64 l1.val) ∧ w'.cell? ⟨bx, ox + k * 5 + 4, none⟩ = some (.int .i64 l1.frm)) ∧ (w'.cell? ⟨b2, oy + k * 5, none⟩ = some (.int .i64 l2.con) ∧ w'.cell? ⟨b2, oy + k * 5 + 1, none⟩ = some (.int .i64 l2.sh) ∧ w'.cell? ⟨b2, oy + k * 5 + 2, none⟩ = some (.int .i64 l2.bal) ∧ w'.cell? ⟨b2, oy + k * 5 + 3, none⟩ = some (.int .i64 l2.val) ∧ w'.cell? ⟨b2, oy + k * 5 + 4, none⟩ = some (.int .i64 l2.frm))) ((refine hrdKeep2 ?_ h1 h2; repeat (first | exact Below.refl _ _ | assumption | refine Below.drew ?_ | refine balloc ?_ _ | refine bstep ?_ (by assumption)))) (first | (go_at_call 97; refine (eqHeard_any l1 l2 _).mono ?_; rintro e w' ⟨rfl, hb1⟩))
        rename_i hH
        have hB := hH.1
        clear hH
        go_wp2
        · rename_i hle
          go_ret
          refine ⟨?_, hB⟩
          have : ¬ xs = ys := fun h => by
            have : l1 = l2 := by rw [H1.out, H2.out, h]
            simp [this] at hle
          simp [this]
        · rename_i hle
          refine ⟨⟨k + 1, by omega, by go_num, fun j hj => ?_, hB⟩, by simp [intOf]; omega⟩
          by_cases hjk : j < k
          · exact HP.out j hjk
          · have : j = k := by omega
            subst this
            rw [← H1.out, ← H2.out]
            simpa using hle
      · go_wp2
        go_ret
        have : k = n := by omega
        subst this
        refine ⟨?_, hbl⟩
        have : xs = ys := hrds_eq_of (by rw [HL.out, HN.out]) (by rw [HN.out]; exact HP.out)
        simp [this]
  · go_enter Try.func88, Try.ntmps88
    have hl' : ((xs.length : Int) == (ys.length : Int)) = false := by simp; omega
    go_wp2
    go_ret
    have : ¬ xs = ys := fun h => hl (by rw [h])
    exact ⟨by simp [this], Below.refl _ _⟩
def hrdC (x : Hrd) : List Value := [.int .i64 x.con, .int .i64 x.sh, .int .i64 x.bal, .int .i64 x.val, .int .i64 x.frm]
def hrdsC (xs : List Hrd) : List Value := xs.flatMap hrdC
theorem length_hrdsC (xs : List Hrd) : (hrdsC xs).length = xs.length * 5 := by
  induction xs with
  | nil => rfl
  | cons x r ih =>
    have e : hrdsC (x :: r) = hrdC x ++ hrdsC r := by simp [hrdsC]
    have l4 : (hrdC x).length = 5 := rfl
    rw [e, List.length_append, l4, ih, List.length_cons]
    omega
theorem get_hrdsC (xs : List Hrd) : ∀ i, i < xs.length → (hrdsC xs)[i * 5]? = some (.int .i64 (xs.getD i default).con) ∧ (hrdsC xs)[i * 5 + 1]? = some (.int .i64 (xs.getD i default).sh) ∧ (hrdsC xs)[i * 5 + 2]? = some (.int .i64 (xs.getD i default).bal) ∧ (hrdsC xs)[i * 5 + 3]? = some (.int .i64 (xs.getD i default).val) ∧ (hrdsC xs)[i * 5 + 4]? = some (.int .i64 (xs.getD i default).frm) := by
  induction xs with
  | nil => intro i h; simp at h
  | cons x r ih =>
    intro i h
    cases i with
    | zero => simp [hrdsC, hrdC]
    | succ i =>
      have := ih i (by simpa using h)
      have e : hrdsC (x :: r) = hrdC x ++ hrdsC r := by simp [hrdsC]
      have l4 : (hrdC x).length = 5 := rfl
      rw [e]
      refine ⟨?_, ?_, ?_, ?_, ?_⟩
      all_goals rw [List.getElem?_append_right (by omega), l4]
      · rw [show (i + 1) * 5 - 5 = i * 5 by omega]; simpa using this.1
      · rw [show (i + 1) * 5 + 1 - 5 = i * 5 + 1 by omega]; simpa using this.2.1
      · rw [show (i + 1) * 5 + 2 - 5 = i * 5 + 2 by omega]; simpa using this.2.2.1
      · rw [show (i + 1) * 5 + 3 - 5 = i * 5 + 3 by omega]; simpa using this.2.2.2.1
      · rw [show (i + 1) * 5 + 4 - 5 = i * 5 + 4 by omega]; simpa using this.2.2.2.2
theorem HrdsV_of_owns {w : World} {base e : Nat} {v : Value} {xs : List Hrd} (h : w.ownsRow base e 5 v xs.length (hrdsC xs)) : HrdsV w v xs := by
  rcases h.2 with ⟨rfl, hn⟩ | ⟨g, cap, cur, rfl, hb, hg, hnc, hcm, hcs, htake⟩
  · exact ⟨none, 0, by rw [hn], by omega, by unfold maxLen; omega, fun i hi => by omega⟩
  · refine ⟨some ⟨g, 0, none⟩, cap, rfl, hnc, hcm, fun i hi => ⟨g, 0, rfl, ?_⟩⟩
    obtain ⟨h0, h1, h2, h3, h4⟩ := get_hrdsC xs i hi
    simp only [Nat.zero_add, hrdCells]
    exact ⟨(h.cellAt _ (by omega)).trans h0, (h.cellAt _ (by omega)).trans h1, (h.cellAt _ (by omega)).trans h2, (h.cellAt _ (by omega)).trans h3, (h.cellAt _ (by omega)).trans h4⟩
def hrdUpto (k : Nat) (cs : List Value) (xs : List Hrd) : Prop := ∀ j, j < k * 5 → cs[j]? = (hrdsC xs)[j]?
theorem hrdUpto_full {n : Nat} {cs : List Value} {xs : List Hrd} (h : hrdUpto n cs xs) (hl : cs.length = n * 5) (hn : xs.length = n) : cs = hrdsC xs := by
  apply List.ext_getElem?
  intro j
  by_cases hj : j < n * 5
  · exact h j hj
  · rw [List.getElem?_eq_none (by omega), List.getElem?_eq_none (by rw [length_hrdsC]; omega)]
theorem hrdUpto_set {k : Nat} {cs : List Value} {xs : List Hrd} {x : Hrd} (h : hrdUpto k cs xs) (hk : k < xs.length) (hl : cs.length = xs.length * 5) (he : x = xs.getD k default) :
    hrdUpto (k + 1) (((((cs.set (k * 5) (.int .i64 x.con)).set (k * 5 + 1) (.int .i64 x.sh)).set (k * 5 + 2) (.int .i64 x.bal)).set (k * 5 + 3) (.int .i64 x.val)).set (k * 5 + 4) (.int .i64 x.frm)) xs := by
  intro j hj
  obtain ⟨h0, h1, h2, h3, h4⟩ := get_hrdsC xs k hk
  subst he
  simp only [List.getElem?_set, List.length_set]
  by_cases e4 : k * 5 + 4 = j
  · subst e4; simp [h4]; omega
  by_cases e3 : k * 5 + 3 = j
  · subst e3; simp [h3]; omega
  by_cases e2 : k * 5 + 2 = j
  · subst e2; simp [h2]; omega
  by_cases e1 : k * 5 + 1 = j
  · subst e1; simp [h1]; omega
  by_cases e0 : k * 5 = j
  · subst e0; simp [h0]; omega
  simp [e0, e1, e2, e3, e4]
  exact h j (by omega)
def hrdMark (k : Int) (i : Nat) : Hrd := ⟨k + 5 * i, k + 5 * i + 1, k + 5 * i + 1 + 1, k + 5 * i + 1 + 1 + 1, k + 5 * i + 1 + 1 + 1 + 1⟩
def hrdMarks (k : Int) (n : Nat) : List Hrd := (List.range n).map (hrdMark k)
theorem length_hrdMarks (k : Int) (n : Nat) : (hrdMarks k n).length = n := by simp [hrdMarks]
theorem getD_hrdMarks (k : Int) (n i : Nat) (h : i < n) : (hrdMarks k n).getD i default = hrdMark k i := by simp [hrdMarks, List.getD, h]
set_option maxHeartbeats 1000000 in
theorem markHeardS_any (v : Value) (n : Nat) (cs : List Value) (base e : Nat) (k : Int) (w : World) (ho : w.ownsRow base e 5 v n cs) (hn : n ≤ 1048576) (hk0 : 0 ≤ k) (hk1 : k ≤ 1073741824) :
    Calls Try.prog 75 #[v, .int .i64 k] w fun r w' => r = .returned (.int .i64 (k + 5 * n)) ∧ w'.ownsRow base e 5 v n (hrdsC (hrdMarks k n)) ∧ w.grownBy w' v.ownBlock := by
  rcases ho.2 with ⟨rfl, rfl⟩ | ⟨g, cap, cur, rfl, hb, hg, hnc, hcm, _, _⟩
  · go_enter Try.func75, Try.ntmps75
    go_wp2
    go_loopw [1, 5] (fun q i w' => q = .int .i64 k ∧ i = .int .i64 0 ∧ w' = w) (fun _ _ _ => 0)
    case atStart => exact ⟨rfl, rfl, rfl⟩
    case round =>
      obtain ⟨rfl, rfl, rfl⟩ := hrel
      go_wp2
      go_ret
      exact ⟨by simp, World.ownsRow_nil _ _ _ _, ⟨rfl, rfl, rfl, Nat.le_refl _, fun _ _ _ => rfl⟩⟩
  · unfold maxLen at hcm
    go_enter Try.func75, Try.ntmps75
    go_wp2
    go_loopw [1, 5] (fun q i w' => ∃ (j : Nat) (cs' : List Value), j ≤ n ∧ i = .int .i64 j ∧ q = .int .i64 (k + 5 * j) ∧ w'.ownsRow base e 5 (.slice (some ⟨g, 0, none⟩) n cap) n cs' ∧ hrdUpto j cs' (hrdMarks k n) ∧ w.grownBy w' (some g)) (fun _ i _ => n - (intOf i).toNat)
    case atStart => exact ⟨0, cs, Nat.zero_le _, rfl, by simp, ho, fun j h => by omega, ⟨rfl, rfl, rfl, Nat.le_refl _, fun _ _ _ => rfl⟩⟩
    case round =>
      obtain ⟨j, cs', hj, rfl, rfl, ho1, hup, hgr⟩ := hrel
      have HU : Hid (hrdUpto j cs' (hrdMarks k n)) := hup
      clear hup ho hg
      by_cases hlt : j < n
      · obtain ⟨u0, g0⟩ := owns_some ho1 (j * 5) (by omega)
        obtain ⟨u1, g1⟩ := owns_some ho1 (j * 5 + 1) (by omega)
        obtain ⟨u2, g2⟩ := owns_some ho1 (j * 5 + 2) (by omega)
        obtain ⟨u3, g3⟩ := owns_some ho1 (j * 5 + 3) (by omega)
        obtain ⟨u4, g4⟩ := owns_some ho1 (j * 5 + 4) (by omega)
        have hf := fun j => ho1.frozenAt j
        go_wp2
        have s0 := ho1.stored (j * 5) (.int .i64 (k + 5 * j))
        have s1 := s0.1.stored (j * 5 + 1) (.int .i64 (k + 5 * j + 1))
        have s2 := s1.1.stored (j * 5 + 2) (.int .i64 (k + 5 * j + 1 + 1))
        have s3 := s2.1.stored (j * 5 + 3) (.int .i64 (k + 5 * j + 1 + 1 + 1))
        have s4 := s3.1.stored (j * 5 + 4) (.int .i64 (k + 5 * j + 1 + 1 + 1 + 1))
        refine ⟨⟨j + 1, _, by omega, by go_num, ?_, s4.1, hrdUpto_set (x := hrdMark k j) HU.out (by rw [length_hrdMarks]; exact hlt) (by rw [length_hrdMarks]; exact ho1.1) (getD_hrdMarks k n j hlt).symm, grownTrans (grownTrans (grownTrans (grownTrans (grownTrans (hgr) s0.2) s1.2) s2.2) s3.2) s4.2⟩, by simp [intOf]; omega⟩
        congr 1
        omega
      · go_wp2
        go_ret
        have hjn : j = n := by omega
        subst hjn
        have e' := hrdUpto_full HU.out ho1.1 (length_hrdMarks k j)
        rw [e'] at ho1
        exact ⟨rfl, ho1, hgr⟩
set_option maxHeartbeats 1000000 in
theorem heldHeardS_any (v : Value) (n : Nat) (k : Int) (w : World) (hv : HrdsV w v (hrdMarks k n)) (hn : n ≤ 1048576) (hk0 : 0 ≤ k) (hk1 : k ≤ 1073741824) :
    Calls Try.prog 81 #[v, .int .i64 k] w fun r w' => r = .returned (.int .i64 (k + 5 * n)) ∧ w' = w := by
  obtain ⟨a, cap, rfl, hnc, hcm, hc⟩ := hv
  rw [length_hrdMarks] at hnc hc ⊢
  unfold maxLen at hcm
  go_enter Try.func81, Try.ntmps81
  go_wp2
  go_loopw [1, 5] (fun q i w' => ∃ j : Nat, j ≤ n ∧ i = .int .i64 j ∧ q = .int .i64 (k + 5 * j) ∧ w' = w) (fun _ i _ => n - (intOf i).toNat)
  case atStart => exact ⟨0, Nat.zero_le _, rfl, by simp, rfl⟩
  case round =>
    obtain ⟨j, hj, rfl, rfl, rfl⟩ := hrel
    by_cases hlt : j < n
    · obtain ⟨b, o, rfl, h1⟩ := hc j hlt
      rw [getD_hrdMarks k n j hlt] at h1
      obtain ⟨g0, g1, g2, g3, g4⟩ := h1
      simp only [hrdMark] at g0 g1 g2 g3 g4
      clear hc
      go_wp2
      refine ⟨⟨j + 1, by omega, by go_num, ?_, trivial⟩, by simp [intOf]; omega⟩
      congr 1
      omega
    · go_wp2
      go_ret
      have hjn : j = n := by omega
      subst hjn
      exact ⟨rfl, rfl⟩
end Go.Proofs.Ytjemciikdijokaa

/-
  Rows of impl.Heard: the uniform forms. (Written by program: nest.py.)
-/
namespace Go.Proofs.Ytjemciikdijokaa
open Go.RowKit
set_option linter.unusedSectionVars false
variable [DecidableEq Hrd] [Inhabited Hrd]
attribute [local go_sem ↓] Go.wp_at_zero Go.wp_at_succ

def hrdsR : Rep (List Hrd) := fRep 136 5 hrdsC HrdsV HrdsV_below HrdsV_of_owns
def wtHrds (xs : List Hrd) : Nat := xs.length
def cntHrds (xs : List Hrd) : Nat := 5 * xs.length
def mkHrds (k : Int) (xs : List Hrd) : List Hrd := hrdMarks k xs.length
theorem hrds_cnt (d : List Hrd) : cntHrds d ≤ 5 * wtHrds d := by unfold cntHrds wtHrds; omega
theorem eqHeardS_u (x y : Value) (d d' : List Hrd) (w : World) (hx : hrdsR.V w x d) (hy : hrdsR.V w y d') :
    Calls Try.prog 88 #[x, y] w fun e w' => e = .returned (.bool (decide (d = d'))) ∧ Below w.heap.size w w' := eqHeardS_any x y d d' w hx hy
theorem markHeardS_u (v : Value) (d : List Hrd) (base : Nat) (F : Nat → Prop) (k : Int) (w : World) (ho : hrdsR.O w base F v d) (hw : wtHrds d ≤ 1048576) (hn : k + cntHrds d ≤ 1073741824) (hk0 : 0 ≤ k) :
    Calls Try.prog 75 #[v, .int .i64 k] w fun r w' => r = .returned (.int .i64 (k + cntHrds d)) ∧ hrdsR.O w' base F v (mkHrds k d) ∧ Mod F w w' := by
  refine (markHeardS_any v d.length _ base _ k w ho.1 hw hk0 (by omega)).mono ?_
  rintro e w' ⟨rfl, h1, h2⟩
  refine ⟨by simp [cntHrds], ⟨?_, ho.2⟩, by rw [ho.2]; exact Mod.of_grown h2⟩
  unfold mkHrds
  rw [length_hrdMarks]
  exact h1
theorem heldHeardS_u (v : Value) (d : List Hrd) (k : Int) (w : World) (hv : hrdsR.V w v (mkHrds k d)) (hw : wtHrds d ≤ 1048576) (hn : k + cntHrds d ≤ 1073741824) (hk0 : 0 ≤ k) :
    Calls Try.prog 81 #[v, .int .i64 k] w fun r w' => r = .returned (.int .i64 (k + cntHrds d)) ∧ Below w.heap.size w w' := by
  refine (heldHeardS_any v d.length k w hv hw hk0 (by omega)).mono ?_
  rintro e w' ⟨rfl, rfl⟩
  exact ⟨by simp [cntHrds], Below.refl _ _⟩
end Go.Proofs.Ytjemciikdijokaa

/-
  Leader. (Written by program: nest.py.)
-/
namespace Go.Proofs.Ytjemciikdijokaa
open Go.RowKit
set_option linter.unusedSectionVars false
variable [DecidableEq Leg] [Inhabited Leg] [DecidableEq Vot] [Inhabited Vot] [DecidableEq Trr] [Inhabited Trr] [DecidableEq Hrd] [Inhabited Hrd]
attribute [local go_sem ↓] Go.wp_at_zero Go.wp_at_succ

set_option linter.unusedSimpArgs false

structure Ldr where
  count : Int
  tries : List Trr
  known : List Hrd
variable [DecidableEq Ldr] [Inhabited Ldr]

def ldrR : Rep Ldr where
  V := fun w v x => ∃ u1 u2, v = .agg #[.int .i64 x.count, u1, u2] ∧ trysR.V w u1 x.tries ∧ hrdsR.V w u2 x.known
  O := fun w base F v x => ∃ u1 u2 F1 F2, v = .agg #[.int .i64 x.count, u1, u2] ∧ trysR.O w base F1 u1 x.tries ∧ hrdsR.O w base F2 u2 x.known ∧ (∀ b, F1 b → ¬ F2 b) ∧ (∀ b, F b ↔ (F1 b ∨ F2 b))
  below := fun h hb => by
    obtain ⟨u1, u2, rfl, h1, h2⟩ := h
    exact ⟨u1, u2, rfl, trysR.below h1 hb, hrdsR.below h2 hb⟩
  ofO := fun h => by
    obtain ⟨u1, u2, F1, F2, rfl, h1, h2, _⟩ := h
    exact ⟨u1, u2, rfl, trysR.ofO h1, hrdsR.ofO h2⟩
  mod := fun h hm hd => by
    obtain ⟨u1, u2, F1, F2, rfl, h1, h2, s12, hF⟩ := h
    exact ⟨u1, u2, F1, F2, rfl, trysR.mod h1 hm (fun b hb => hd b ((hF b).2 (.inl hb))), hrdsR.mod h2 hm (fun b hb => hd b ((hF b).2 (.inr hb))), s12, hF⟩
  rng := fun h b hb => by
    obtain ⟨u1, u2, F1, F2, rfl, h1, h2, s12, hF⟩ := h
    rcases (hF b).1 hb with hb | hb
    · exact trysR.rng h1 b hb
    · exact hrdsR.rng h2 b hb
  base := fun h hb => by
    obtain ⟨u1, u2, F1, F2, rfl, h1, h2, s12, hF⟩ := h
    exact ⟨u1, u2, F1, F2, rfl, trysR.base h1 hb, hrdsR.base h2 hb, s12, hF⟩
def wtLdr (x : Ldr) : Nat := wtTrys x.tries + wtHrds x.known
def lvLdr (v : Value) : List Value := match v with | .agg a => one (a.getD 0 (.int .i64 0)) ++ one (a.getD 1 (.int .i64 0)) ++ one (a.getD 2 (.int .i64 0)) | _ => []
def cntElLdr (x : Ldr) : Nat := 1 + cntTrys x.tries + cntHrds x.known
def mkElLdr (k : Int) (x : Ldr) : Ldr := { count := k, tries := mkTrys (k + 1) x.tries, known := mkHrds (k + 1 + cntTrys x.tries) x.known }
theorem ldr_cntEl (d : Ldr) : cntElLdr d ≤ 7 * (1 + wtLdr d) := by
  unfold cntElLdr wtLdr
  have q1 := trys_cnt d.tries
  have q2 := hrds_cnt d.known
  omega
set_option maxHeartbeats 1000000 in
theorem eqLeader_u (x y : Value) (d d' : Ldr) (w : World) (hx : ldrR.V w x d) (hy : ldrR.V w y d') :
    Calls Try.prog 68 #[x, y] w fun e w' => e = .returned (.bool (decide (d = d'))) ∧ Below w.heap.size w w' := by
  obtain ⟨u1, u2, rfl, h1, h2⟩ := hx
  obtain ⟨v1, v2, rfl, k1, k2⟩ := hy
  obtain ⟨count, tries, known⟩ := d
  obtain ⟨count', tries', known'⟩ := d'
  dsimp only at h1 k1 h2 k2
  go_enter Try.func68, Try.ntmps68
  go_wp2_with fail
  all_goals try (go_ret; exact ⟨by simp_all, by (repeat (first | exact Below.refl _ _ | assumption | refine Below.drew ?_ | refine balloc ?_ _ | refine bset ?_ (by simp; omega) _ | refine bset ?_ (by simp) _ | refine bstep ?_ (by assumption)))⟩)
  refine (eqTryS_u _ _ tries tries' _ (trysR.below h1 (by (repeat (first | exact Below.refl _ _ | assumption | refine Below.drew ?_ | refine balloc ?_ _ | refine bset ?_ (by simp; omega) _ | refine bset ?_ (by simp) _ | refine bstep ?_ (by assumption))))) (trysR.below k1 (by (repeat (first | exact Below.refl _ _ | assumption | refine Below.drew ?_ | refine balloc ?_ _ | refine bset ?_ (by simp; omega) _ | refine bset ?_ (by simp) _ | refine bstep ?_ (by assumption)))))).mono ?_
  rintro e w1 ⟨rfl, b1⟩
  have x0 : w1.cell? ⟨w.heap.size, 0, none⟩ = some (.int .i64 count) := cell_keep b1 (by simp [go_sem])
  have x1 : w1.cell? ⟨w.heap.size, 1, none⟩ = some (u1) := cell_keep b1 (by simp [go_sem])
  have x2 : w1.cell? ⟨w.heap.size, 2, none⟩ = some (u2) := cell_keep b1 (by simp [go_sem])
  have y0 : w1.cell? ⟨w.heap.size + 1, 0, none⟩ = some (.int .i64 count') := cell_keep b1 (by simp [go_sem])
  have y1 : w1.cell? ⟨w.heap.size + 1, 1, none⟩ = some (v1) := cell_keep b1 (by simp [go_sem])
  have y2 : w1.cell? ⟨w.heap.size + 1, 2, none⟩ = some (v2) := cell_keep b1 (by simp [go_sem])
  go_wp2_with fail
  all_goals try (go_ret; exact ⟨by simp_all, by (repeat (first | exact Below.refl _ _ | assumption | refine Below.drew ?_ | refine balloc ?_ _ | refine bset ?_ (by simp; omega) _ | refine bset ?_ (by simp) _ | refine bstep ?_ (by assumption)))⟩)
  refine (eqHeardS_u _ _ known known' _ (hrdsR.below h2 (by (repeat (first | exact Below.refl _ _ | assumption | refine Below.drew ?_ | refine balloc ?_ _ | refine bset ?_ (by simp; omega) _ | refine bset ?_ (by simp) _ | refine bstep ?_ (by assumption))))) (hrdsR.below k2 (by (repeat (first | exact Below.refl _ _ | assumption | refine Below.drew ?_ | refine balloc ?_ _ | refine bset ?_ (by simp; omega) _ | refine bset ?_ (by simp) _ | refine bstep ?_ (by assumption)))))).mono ?_
  rintro e w2 ⟨rfl, b2⟩
  go_wp2
  all_goals
    go_ret
    exact ⟨by simp_all, by (repeat (first | exact Below.refl _ _ | assumption | refine Below.drew ?_ | refine balloc ?_ _ | refine bset ?_ (by simp; omega) _ | refine bset ?_ (by simp) _ | refine bstep ?_ (by assumption)))⟩
end Go.Proofs.Ytjemciikdijokaa

/-
  Rows of Leader. (Written by program: nest.py.)
-/
namespace Go.Proofs.Ytjemciikdijokaa
open Go.RowKit
set_option linter.unusedSectionVars false
variable [DecidableEq Leg] [Inhabited Leg] [DecidableEq Vot] [Inhabited Vot] [DecidableEq Trr] [Inhabited Trr] [DecidableEq Hrd] [Inhabited Hrd] [DecidableEq Ldr] [Inhabited Ldr]
attribute [local go_sem ↓] Go.wp_at_zero Go.wp_at_succ

def ldrsR : Rep (List Ldr) := nRep ldrR 103 3 lvLdr
def wtLdrs (xs : List Ldr) : Nat := wtL wtLdr xs
def cntLdrs (xs : List Ldr) : Nat := cntL cntElLdr xs
def mkLdrs (k : Int) (xs : List Ldr) : List Ldr := mkL mkElLdr cntElLdr k xs
theorem ldrs_form {w : World} {v : Value} {xs : List Ldr} (h : ldrsR.V w v xs) : ∃ a c, v = .slice a xs.length c := by
  obtain ⟨a, c, rfl, _⟩ := h
  exact ⟨_, _, rfl⟩
theorem ldrs_cnt (d : List Ldr) : cntLdrs d ≤ 7 * wtLdrs d := cntL_le (fun x => ldr_cntEl x) d
theorem keepLdrs {w w' : World} {a0 a1 a2 a3 a4 a5 : Addr} {x0 x1 x2 x3 x4 x5 : Value} (hb : Below w.heap.size w w') (g0 : w.cell? a0 = some x0) (g1 : w.cell? a1 = some x1) (g2 : w.cell? a2 = some x2) (g3 : w.cell? a3 = some x3) (g4 : w.cell? a4 = some x4) (g5 : w.cell? a5 = some x5) : Below w.heap.size w w' ∧ w'.cell? a0 = some x0 ∧ w'.cell? a1 = some x1 ∧ w'.cell? a2 = some x2 ∧ w'.cell? a3 = some x3 ∧ w'.cell? a4 = some x4 ∧ w'.cell? a5 = some x5 :=
  ⟨hb, cell_keep hb g0, cell_keep hb g1, cell_keep hb g2, cell_keep hb g3, cell_keep hb g4, cell_keep hb g5⟩
set_option maxHeartbeats 1000000 in
theorem eqLeaderS_u (x y : Value) (xs ys : List Ldr) (w : World) (hx : ldrsR.V w x xs) (hy : ldrsR.V w y ys) :
    Calls Try.prog 50 #[x, y] w fun e w' => e = .returned (.bool (decide (xs = ys))) ∧ Below w.heap.size w w' := by
  obtain ⟨ax, cx, rfl, hcx, hmx, hx⟩ := hx
  obtain ⟨ay, cy, rfl, hcy, hmy, hy⟩ := hy
  unfold maxLen at hmx hmy
  by_cases hl : ys.length = xs.length
  · rw [hl] at hcy hy ⊢
    have HL : Hid (ys.length = xs.length) := hl
    clear hl
    generalize hn : xs.length = n at *
    have HN : Hid (xs.length = n) := hn
    clear hn
    go_enter Try.func50, Try.ntmps50
    go_wp2
    go_loopw [5] (fun i w' => ∃ k : Nat, k ≤ n ∧ i = .int .i64 k ∧ (∀ j, j < k → xs.getD j default = ys.getD j default) ∧ Below w.heap.size w w') (fun i _ => n - (intOf i).toNat)
    case atStart => exact ⟨0, Nat.zero_le _, rfl, fun j h => absurd h (Nat.not_lt_zero _), Below.refl _ _⟩
    case round =>
      obtain ⟨k, hk, rfl, hpre, hbl⟩ := hrel
      have HP : Hid (∀ j, j < k → xs.getD j default = ys.getD j default) := hpre
      clear hpre
      by_cases hlt : k < n
      · obtain ⟨bx, ox, ux, rfl, _, p1, hvx⟩ := hx k hlt
        obtain ⟨b2, oy, uy, rfl, _, p2, hvy⟩ := hy k hlt
        obtain ⟨l1, hl1⟩ : ∃ l, l = xs.getD k default := ⟨_, rfl⟩
        obtain ⟨l2, hl2⟩ : ∃ l, l = ys.getD k default := ⟨_, rfl⟩
        rw [← hl1] at hvx
        rw [← hl2] at hvy
        have H1 : Hid (l1 = xs.getD k default) := hl1
        have H2 : Hid (l2 = ys.getD k default) := hl2
        have hvx' := hvx
        obtain ⟨ux1, ux2, rfl, _, _⟩ := hvx'
        have hvy' := hvy
        obtain ⟨uy1, uy2, rfl, _, _⟩ := hvy'
        have g0 : w.cell? ⟨bx, ox + k * 3, none⟩ = some (.int .i64 l1.count) := p1 0 (by omega)
        have g1 : w.cell? ⟨bx, ox + k * 3 + 1, none⟩ = some (ux1) := p1 1 (by omega)
        have g2 : w.cell? ⟨bx, ox + k * 3 + 2, none⟩ = some (ux2) := p1 2 (by omega)
        have g3 : w.cell? ⟨b2, oy + k * 3, none⟩ = some (.int .i64 l2.count) := p2 0 (by omega)
        have g4 : w.cell? ⟨b2, oy + k * 3 + 1, none⟩ = some (uy1) := p2 1 (by omega)
        have g5 : w.cell? ⟨b2, oy + k * 3 + 2, none⟩ = some (uy2) := p2 2 (by omega)
        clear hl1 hl2 hx hy p1 p2
        go_wp2
        go_region_held3 (fun w' => Below w.heap.size w w' ∧ w'.cell? ⟨bx, ox + k * 3, none⟩ = some (.int .i64 l1.count) ∧ w'.cell? ⟨bx, ox + k * 3 + 1, none⟩ = some (ux1) ∧ w'.cell? ⟨bx, ox + k * 3 + 2, none⟩ = some (ux2) ∧ w'.cell? ⟨b2, oy + k * 3, none⟩ = some (.int .i64 l2.count) ∧ w'.cell? ⟨b2, oy + k * 3 + 1, none⟩ = some (uy1) ∧ w'.cell? ⟨b2, oy + k * 3 + 2, none⟩ = some (uy2)) ((refine keepLdrs ?_ g0 g1 g2 g3 g4 g5; (repeat (first | exact Below.refl _ _ | assumption | refine Below.drew ?_ | refine balloc ?_ _ | refine bstep ?_ (by assumption))))) (first | (go_at_call 68; refine (eqLeader_u (.agg #[.int .i64 l1.count, ux1, ux2]) (.agg #[.int .i64 l2.count, uy1, uy2]) l1 l2 _ (ldrR.below hvx (by (repeat (first | exact Below.refl _ _ | assumption | refine Below.drew ?_ | refine balloc ?_ _ | refine bstep ?_ (by assumption))))) (ldrR.below hvy (by (repeat (first | exact Below.refl _ _ | assumption | refine Below.drew ?_ | refine balloc ?_ _ | refine bstep ?_ (by assumption)))))).mono ?_; rintro e w' ⟨rfl, hb1⟩))
        rename_i hH
        have hB := hH.1
        clear hH
        go_wp2
        · rename_i hle
          go_ret
          refine ⟨?_, hB⟩
          have : ¬ xs = ys := fun h => by
            have : l1 = l2 := by rw [H1.out, H2.out, h]
            simp [this] at hle
          simp [this]
        · rename_i hle
          refine ⟨⟨k + 1, by omega, by go_num, fun j hj => ?_, hB⟩, by simp [intOf]; omega⟩
          by_cases hjk : j < k
          · exact HP.out j hjk
          · have : j = k := by omega
            subst this
            rw [← H1.out, ← H2.out]
            simpa using hle
      · go_wp2
        go_ret
        have : k = n := by omega
        subst this
        refine ⟨?_, hbl⟩
        have : xs = ys := rows_eq_of (by rw [HL.out, HN.out]) (by rw [HN.out]; exact HP.out)
        simp [this]
  · go_enter Try.func50, Try.ntmps50
    have hl' : ((xs.length : Int) == (ys.length : Int)) = false := by simp; omega
    go_wp2
    go_ret
    have : ¬ xs = ys := fun h => hl (by rw [h])
    exact ⟨by simp [this], Below.refl _ _⟩
set_option maxHeartbeats 1000000 in
theorem heldLeaderS_u (v : Value) (xs : List Ldr) (k : Int) (w : World) (hv : ldrsR.V w v (mkLdrs k xs)) (hw : wtLdrs xs ≤ 1048576) (hn : k + cntLdrs xs ≤ 1073741824) (hk0 : 0 ≤ k) :
    Calls Try.prog 61 #[v, .int .i64 k] w fun r w' => r = .returned (.int .i64 (k + cntLdrs xs)) ∧ Below w.heap.size w w' := by
  obtain ⟨a, cap, rfl, hnc, hcm, hc⟩ := hv
  unfold mkLdrs at hnc hc ⊢
  rw [length_mkL] at hnc hc ⊢
  unfold maxLen at hcm
  have hW : ∀ k, k < xs.length → wtLdr (xs.getD k default) ≤ 1048576 := fun k hk => (wt_at hw hk).1
  unfold cntLdrs cntL at hn ⊢
  have HT : Hid (∀ j, j < xs.length → (mkL mkElLdr cntElLdr k xs).getD j default = mkElLdr (k + cntTo cntElLdr j xs) (xs.getD j default) ∧ cntTo cntElLdr (j + 1) xs = cntTo cntElLdr j xs + cntElLdr (xs.getD j default) ∧ cntTo cntElLdr (j + 1) xs ≤ cntTo cntElLdr xs.length xs) :=
    fun j hj => ⟨getD_mkL _ _ _ _ _ hj, cntTo_succ _ j xs hj, cntTo_le _ _ _ _ hj⟩
  clear hw
  generalize xs.length = n at *
  go_enter Try.func61, Try.ntmps61
  go_wp2
  go_loopw [1, 5] (fun q i w' => ∃ j : Nat, j ≤ n ∧ i = .int .i64 j ∧ q = .int .i64 (k + cntTo cntElLdr j xs) ∧ Below w.heap.size w w') (fun _ i _ => n - (intOf i).toNat)
  case atStart => exact ⟨0, Nat.zero_le _, rfl, by simp [cntTo], Below.refl _ _⟩
  case round =>
    obtain ⟨j, hj, rfl, rfl, hbl⟩ := hrel
    by_cases hlt : j < n
    · obtain ⟨bx, ox, ux, rfl, _, p1, hvx⟩ := hc j hlt
      obtain ⟨t1, t2, t3⟩ := HT.out j hlt
      have hw1 := hW j hlt
      rw [t1] at hvx
      generalize xs.getD j default = l at *
      have tC : cntElLdr l = 1 + cntTrys l.tries + cntHrds l.known := rfl
      rw [tC] at t2
      have tW : wtLdr l = wtTrys l.tries + wtHrds l.known := rfl
      rw [tW] at hw1
      clear tC tW
      obtain ⟨q, hq⟩ : ∃ q, q = k + cntTo cntElLdr j xs := ⟨_, rfl⟩
      have hq0 : 0 ≤ q := by omega
      rw [← hq] at hvx ⊢
      have T2 : Hid (k + cntTo cntElLdr (j + 1) xs = q + 1 + cntTrys l.tries + cntHrds l.known) := by show _ = _; omega
      have hq1 : q + 1 + cntTrys l.tries + cntHrds l.known ≤ 1073741824 := by omega
      obtain ⟨ux1, ux2, rfl, hv1, hv2⟩ := hvx
      dsimp only [mkElLdr] at hv1 hv2
      have g0 : w.cell? ⟨bx, ox + j * 3, none⟩ = some (.int .i64 (q)) := p1 0 (by omega)
      replace g0 := cell_keep hbl g0
      have g1 : w.cell? ⟨bx, ox + j * 3 + 1, none⟩ = some (ux1) := p1 1 (by omega)
      replace g1 := cell_keep hbl g1
      have g2 : w.cell? ⟨bx, ox + j * 3 + 2, none⟩ = some (ux2) := p1 2 (by omega)
      replace g2 := cell_keep hbl g2
      clear hc p1 t1 t2 t3 hW hq
      go_wp2_with fail
      refine (heldTryS_u ux1 l.tries (q + 1) _ (trysR.below hv1 (by (repeat (first | exact Below.refl _ _ | assumption | refine Below.drew ?_ | refine balloc ?_ _ | refine bstep ?_ (by assumption))))) (by omega) (by omega) (by omega)).mono ?_
      rintro e wb1 ⟨rfl, b1⟩
      replace g2 := cell_keep b1 g2
      go_wp2_with fail
      refine (heldHeardS_u ux2 l.known (q + 1 + cntTrys l.tries) _ (hrdsR.below hv2 (by (repeat (first | exact Below.refl _ _ | assumption | refine Below.drew ?_ | refine balloc ?_ _ | refine bstep ?_ (by assumption))))) (by omega) (by omega) (by omega)).mono ?_
      rintro e wb2 ⟨rfl, b2⟩
      go_wp2
      refine ⟨⟨j + 1, by omega, by go_num, ?_, by (repeat (first | exact Below.refl _ _ | assumption | refine Below.drew ?_ | refine balloc ?_ _ | refine bstep ?_ (by assumption)))⟩, by simp [intOf]; omega⟩
      rw [T2.out]
    · go_wp2
      go_ret
      have hjn : j = n := by omega
      subst hjn
      exact ⟨rfl, hbl⟩
set_option maxHeartbeats 1000000 in
theorem markLeaderS_u (v : Value) (xs : List Ldr) (base : Nat) (F : Nat → Prop) (k : Int) (w : World) (ho : ldrsR.O w base F v xs) (hw : wtLdrs xs ≤ 1048576) (hn : k + cntLdrs xs ≤ 1073741824) (hk0 : 0 ≤ k) :
    Calls Try.prog 55 #[v, .int .i64 k] w fun r w' => r = .returned (.int .i64 (k + cntLdrs xs)) ∧ ldrsR.O w' base F v (mkLdrs k xs) ∧ Mod F w w' := by
  obtain ⟨cs, us, fs, hp, hF⟩ := ho
  have hW : ∀ k, k < xs.length → wtLdr (xs.getD k default) ≤ 1048576 := fun k hk => (wt_at hw hk).1
  unfold cntLdrs cntL at hn ⊢
  have HT : Hid (∀ j, j < xs.length → (mkL mkElLdr cntElLdr k xs).getD j default = mkElLdr (k + cntTo cntElLdr j xs) (xs.getD j default) ∧ cntTo cntElLdr (j + 1) xs = cntTo cntElLdr j xs + cntElLdr (xs.getD j default) ∧ cntTo cntElLdr (j + 1) xs ≤ cntTo cntElLdr xs.length xs) :=
    fun j hj => ⟨getD_mkL _ _ _ _ _ hj, cntTo_succ _ j xs hj, cntTo_le _ _ _ _ hj⟩
  clear hw
  have hcap := hp.len
  obtain ⟨av, cv, hav⟩ := owns_form hp.row
  subst hav
  have HF : Hid (∀ b, F b ↔ ((Value.slice av xs.length cv).ownBlock = some b ∨ ∃ i, i < xs.length ∧ fs i b)) := hF
  have HM : Hid ((mkL mkElLdr cntElLdr k xs).length = xs.length) := length_mkL _ _ _ _
  clear hF
  generalize hxl : xs.length = n at *
  clear hxl
  go_enter Try.func55, Try.ntmps55
  go_wp2
  go_loopw [1, 5] (fun q i w' => ∃ (j : Nat) (cs : List Value) (us : Nat → Value), j ≤ n ∧ i = .int .i64 j ∧ q = .int .i64 (k + cntTo cntElLdr j xs) ∧ PO ldrR 103 3 lvLdr w' base (.slice av n cv) n n (fun i => if i < j then (mkL mkElLdr cntElLdr k xs).getD i default else xs.getD i default) cs us fs ∧ Mod F w w') (fun _ i _ => n - (intOf i).toNat)
  case atStart => exact ⟨0, cs, us, Nat.zero_le _, rfl, by simp [cntTo], hp.cast (fun i hi => by simp), Mod.refl _ _⟩
  case round =>
    clear hp
    obtain ⟨j, cs, us, hj, rfl, rfl, hp1, hm⟩ := hrel
    by_cases hlt : j < n
    · have he := hp1.el j hlt
      simp only [Nat.lt_irrefl, if_false] at he
      obtain ⟨g, rfl, hcl⟩ := hp1.at hlt hlt
      obtain ⟨t1, t2, t3⟩ := HT.out j hlt
      have hw1 := hW j hlt
      obtain ⟨l, hl⟩ : ∃ l, l = xs.getD j default := ⟨_, rfl⟩
      rw [← hl] at t1 t2 hw1 he
      have tC : cntElLdr l = 1 + cntTrys l.tries + cntHrds l.known := rfl
      rw [tC] at t2
      have tW : wtLdr l = wtTrys l.tries + wtHrds l.known := rfl
      rw [tW] at hw1
      clear tC tW
      obtain ⟨q, hq⟩ : ∃ q, q = k + cntTo cntElLdr j xs := ⟨_, rfl⟩
      have hq0 : 0 ≤ q := by omega
      rw [← hq] at t1 ⊢
      have T1 : Hid ((mkL mkElLdr cntElLdr k xs).getD j default = mkElLdr q l) := t1
      have T2 : Hid (k + cntTo cntElLdr (j + 1) xs = q + 1 + cntTrys l.tries + cntHrds l.known) := by show _ = _; omega
      have hq1 : q + 1 + cntTrys l.tries + cntHrds l.known ≤ 1073741824 := by omega
      obtain ⟨ux1, ux2, F1, F2, hu, h1, h2, s12, hF⟩ := he
      rw [hu] at hcl
      have g0 : wr.cell? ⟨g, j * 3, none⟩ = some (.int .i64 l.count) := hcl 0 (by omega)
      have g1 : wr.cell? ⟨g, j * 3 + 1, none⟩ = some (ux1) := hcl 1 (by omega)
      have g2 : wr.cell? ⟨g, j * 3 + 2, none⟩ = some (ux2) := hcl 2 (by omega)
      have hrow := hp1.row
      have hclen := hrow.1
      have hf := fun j => hrow.frozenAt j
      clear hl t1 t2 t3 hW hq hcl
      go_wp2_with fail
      have st1 := hrow.stored (j * 3) (.int .i64 (q))
      replace h1 := trysR.mod h1 (Mod.of_grown st1.2) (fun b hb he => hp1.out j hlt b ((hF b).2 (.inl hb)) he)
      replace h2 := hrdsR.mod h2 (Mod.of_grown st1.2) (fun b hb he => hp1.out j hlt b ((hF b).2 (.inr hb)) he)
      have M1 := (Mod.of_grown st1.2).mono (G := fun b => (Value.slice (some ⟨g, 0, none⟩) n cv).ownBlock = some b ∨ fs j b) (fun b hb => .inl hb)
      refine (markTryS_u ux1 l.tries base F1 (q + 1) _ h1 (by omega) (by omega) (by omega)).mono ?_
      rintro e wb1 ⟨rfl, r1, m1⟩
      have rw1 := m1.owns st1.1 (fun b he hb => hp1.out j hlt b ((hF b).2 (.inl hb)) he)
      replace h2 := hrdsR.mod h2 m1 (fun b p q => s12 b q p)
      have M2 := m1.mono (G := fun b => (Value.slice (some ⟨g, 0, none⟩) n cv).ownBlock = some b ∨ fs j b) (fun b hb => .inr ((hF b).2 (.inl hb)))
      replace g2 : wb1.cell? ⟨g, j * 3 + 2, none⟩ = some (ux2) := m1.cell (by first | exact g2 | simp [go_sem, g2]) (fun hb => hp1.out j hlt g ((hF g).2 (.inl hb)) rfl)
      replace hf := fun j => rw1.frozenAt j
      go_wp2_with fail
      refine (markHeardS_u ux2 l.known base F2 (q + 1 + cntTrys l.tries) _ h2 (by omega) (by omega) (by omega)).mono ?_
      rintro e wb2 ⟨rfl, r2, m2⟩
      have rw2 := m2.owns rw1 (fun b he hb => hp1.out j hlt b ((hF b).2 (.inr hb)) he)
      replace r1 := trysR.mod r1 m2 (fun b p q => s12 b p q)
      have M3 := m2.mono (G := fun b => (Value.slice (some ⟨g, 0, none⟩) n cv).ownBlock = some b ∨ fs j b) (fun b hb => .inr ((hF b).2 (.inr hb)))
      go_wp2
      have hq := hp1.turn (u := (.agg #[.int .i64 (q), ux1, ux2])) (x := mkElLdr q l) hlt ((M1.trans M2).trans M3) ⟨ux1, ux2, F1, F2, rfl, r1, r2, s12, hF⟩ rfl rw2 ?_ ?_
      · refine ⟨⟨j + 1, _, _, by omega, by go_num, by rw [T2.out], hq.cast fun i hi => ?_, hm.trans (((M1.trans M2).trans M3).mono fun b hb => (HF.out b).2 ?_)⟩, by simp [intOf]; omega⟩
        · by_cases hij : i = j
          · subst hij
            rw [upd_at, if_pos (by omega)]
            exact T1.out
          · rw [upd_ne _ _ hij]
            by_cases h : i < j
            · rw [if_pos h, if_pos (by omega)]
            · rw [if_neg h, if_neg (by omega)]
        · rcases hb with hb | hb
          · exact .inl hb
          · exact .inr ⟨j, hlt, hb⟩
      · intro i hi hij o ho
        simp only [List.getElem?_set]
        rw [if_neg (by omega)]
      · intro o ho
        have ho' : o = 0 ∨ o = 1 ∨ o = 2 := by omega
        rcases ho' with rfl | rfl | rfl
        · rw [show j * 3 + 0 = j * 3 from rfl, List.getElem?_set_self (by (try simp only [List.length_set]); omega)]
          rfl
        · rw [List.getElem?_set_ne (by omega), hp1.cell j hlt 1 (by omega), hu]
          rfl
        · rw [List.getElem?_set_ne (by omega), hp1.cell j hlt 2 (by omega), hu]
          rfl
    · go_wp2
      go_ret
      have hjn : j = n := by omega
      subst hjn
      refine ⟨rfl, ⟨cs, us, fs, ?_, ?_⟩, hm⟩
      · unfold mkLdrs
        rw [HM.out]
        exact hp1.cast (fun i hi => by rw [if_pos hi])
      · unfold mkLdrs
        rw [HM.out]
        exact HF.out
end Go.Proofs.Ytjemciikdijokaa

