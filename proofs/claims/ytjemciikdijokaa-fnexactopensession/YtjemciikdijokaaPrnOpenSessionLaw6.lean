import Derived.Test.YtjemciikdijokaaPrnOpenSessionLaw1
import Derived.Deep.RegionHeld3
import Derived.Deep.DrawnRows
import Derived.Test.YtjemciikdijokaaPrnOpenSessionLaw2

/-
  Slices of Vote: the law's own copy, comparison, count, marks. (Written by program after my texts on legs.)
-/
namespace Go.Proofs.Ytjemciikdijokaa
open Go.RowKit
set_option linter.unusedSectionVars false
attribute [local go_sem ↓] Go.wp_at_zero Go.wp_at_succ

structure Vot where
  bal : Int
  val : Int
variable [DecidableEq Vot] [Inhabited Vot]

def votV (x : Vot) : Value := .agg #[.int .i64 x.bal, .int .i64 x.val]
set_option maxHeartbeats 400000 in
theorem eqVote_any (x y : Vot) (w : World) :
    Calls Try.prog 89 #[votV x, votV y] w fun e w' => e = .returned (.bool (decide (x = y))) ∧ Below w.heap.size w w' := by
  obtain ⟨a, b⟩ := x
  obtain ⟨a', b'⟩ := y
  unfold votV
  go_enter Try.func89, Try.ntmps89
  go_wp2
  all_goals
    go_ret
    exact ⟨by simp_all, balloc (balloc (Below.refl _ _) _) _⟩
def votCells (w : World) (b o : Nat) (x : Vot) : Prop := w.cell? ⟨b, o, none⟩ = some (.int .i64 x.bal) ∧ w.cell? ⟨b, o + 1, none⟩ = some (.int .i64 x.val)
def VotsV (w : World) (v : Value) (xs : List Vot) : Prop :=
  ∃ a cap, v = .slice a xs.length cap ∧ xs.length ≤ cap ∧ cap ≤ maxLen ∧ ∀ i, i < xs.length → ∃ b o, a = some ⟨b, o, none⟩ ∧ votCells w b (o + i * 2) (xs.getD i default)
theorem votCells_below {w w' : World} {b o : Nat} {x : Vot} (hb : Below w.heap.size w w') (h : votCells w b o x) : votCells w' b o x := by
  obtain ⟨h0, h1⟩ := h
  exact ⟨cell_keep hb h0, cell_keep hb h1⟩
theorem VotsV_below {w w' : World} {v : Value} {xs : List Vot} (h : VotsV w v xs) (hb : Below w.heap.size w w') : VotsV w' v xs := by
  obtain ⟨a, cap, rfl, h1, h2, h3⟩ := h
  exact ⟨a, cap, rfl, h1, h2, fun i hi => by
    obtain ⟨b, o, ha, hc⟩ := h3 i hi
    exact ⟨b, o, ha, votCells_below hb hc⟩⟩
theorem votKeep2 {w w' : World} {b o b' o' : Nat} {x y : Vot} (hb : Below w.heap.size w w') (h : votCells w b o x) (h' : votCells w b' o' y) :
    Below w.heap.size w w' ∧ (w'.cell? ⟨b, o, none⟩ = some (.int .i64 x.bal) ∧ w'.cell? ⟨b, o + 1, none⟩ = some (.int .i64 x.val)) ∧ (w'.cell? ⟨b', o', none⟩ = some (.int .i64 y.bal) ∧ w'.cell? ⟨b', o' + 1, none⟩ = some (.int .i64 y.val)) :=
  ⟨hb, votCells_below hb h, votCells_below hb h'⟩
theorem vots_eq_of {xs ys : List Vot} (hl : ys.length = xs.length) (h : ∀ j, j < xs.length → xs.getD j default = ys.getD j default) : xs = ys := by
  apply List.ext_getElem (by omega)
  intro i h1 h2
  have := h i h1
  simpa [List.getD, h1, h2] using this
set_option maxHeartbeats 1000000 in
theorem eqVoteS_any (x y : Value) (xs ys : List Vot) (w : World) (hx : VotsV w x xs) (hy : VotsV w y ys) :
    Calls Try.prog 98 #[x, y] w fun e w' => e = .returned (.bool (decide (xs = ys))) ∧ Below w.heap.size w w' := by
  obtain ⟨ax, cx, rfl, hcx, hmx, hx⟩ := hx
  obtain ⟨ay, cy, rfl, hcy, hmy, hy⟩ := hy
  unfold maxLen at hmx hmy
  by_cases hl : ys.length = xs.length
  · rw [hl] at hcy hy ⊢
    have HL : Hid (ys.length = xs.length) := hl
    clear hl
    generalize hn : xs.length = n at *
    have HN : Hid (xs.length = n) := hn
    clear hn
    go_enter Try.func98, Try.ntmps98
    go_wp2
    go_loopw [5] (fun i w' => ∃ k : Nat, k ≤ n ∧ i = .int .i64 k ∧ (∀ j, j < k → xs.getD j default = ys.getD j default) ∧ Below w.heap.size w w') (fun i _ => n - (intOf i).toNat)
    case atStart => exact ⟨0, Nat.zero_le _, rfl, fun j h => absurd h (Nat.not_lt_zero _), Below.refl _ _⟩
    case round =>
      obtain ⟨k, hk, rfl, hpre, hbl⟩ := hrel
      have HP : Hid (∀ j, j < k → xs.getD j default = ys.getD j default) := hpre
      clear hpre
      by_cases hlt : k < n
      · obtain ⟨bx, ox, rfl, h1⟩ := hx k hlt
        obtain ⟨b2, oy, rfl, h2⟩ := hy k hlt
        obtain ⟨l1, hl1⟩ : ∃ l, l = xs.getD k default := ⟨_, rfl⟩
        obtain ⟨l2, hl2⟩ : ∃ l, l = ys.getD k default := ⟨_, rfl⟩
        rw [← hl1] at h1
        rw [← hl2] at h2
        have H1 : Hid (l1 = xs.getD k default) := hl1
        have H2 : Hid (l2 = ys.getD k default) := hl2
        clear hl1 hl2 hx hy
        go_wp2
        go_region_held3 (fun w' => Below w.heap.size w w' ∧ (w'.cell? ⟨bx, ox + k * 2, none⟩ = some (.int .i64 l1.bal) ∧ w'.cell? ⟨bx, ox + k * 2 + 1, none⟩ = some (.int .i64 l1.val)) ∧ (w'.cell? ⟨b2, oy + k * 2, none⟩ = some (.int .i64 l2.bal) ∧ w'.cell? ⟨b2, oy + k * 2 + 1, none⟩ = some (.int .i64 l2.val))) ((refine votKeep2 ?_ h1 h2; repeat (first | exact Below.refl _ _ | assumption | refine Below.drew ?_ | refine balloc ?_ _ | refine bstep ?_ (by assumption)))) (first | (go_at_call 89; refine (eqVote_any l1 l2 _).mono ?_; rintro e w' ⟨rfl, hb1⟩))
        rename_i hH
        have hB := hH.1
        clear hH
        go_wp2
        · rename_i hle
          go_ret
          refine ⟨?_, hB⟩
          have : ¬ xs = ys := fun h => by
            have : l1 = l2 := by rw [H1.out, H2.out, h]
            simp [this] at hle
          simp [this]
        · rename_i hle
          refine ⟨⟨k + 1, by omega, by go_num, fun j hj => ?_, hB⟩, by simp [intOf]; omega⟩
          by_cases hjk : j < k
          · exact HP.out j hjk
          · have : j = k := by omega
            subst this
            rw [← H1.out, ← H2.out]
            simpa using hle
      · go_wp2
        go_ret
        have : k = n := by omega
        subst this
        refine ⟨?_, hbl⟩
        have : xs = ys := vots_eq_of (by rw [HL.out, HN.out]) (by rw [HN.out]; exact HP.out)
        simp [this]
  · go_enter Try.func98, Try.ntmps98
    have hl' : ((xs.length : Int) == (ys.length : Int)) = false := by simp; omega
    go_wp2
    go_ret
    have : ¬ xs = ys := fun h => hl (by rw [h])
    exact ⟨by simp [this], Below.refl _ _⟩
def votC (x : Vot) : List Value := [.int .i64 x.bal, .int .i64 x.val]
def votsC (xs : List Vot) : List Value := xs.flatMap votC
theorem length_votsC (xs : List Vot) : (votsC xs).length = xs.length * 2 := by
  induction xs with
  | nil => rfl
  | cons x r ih =>
    have e : votsC (x :: r) = votC x ++ votsC r := by simp [votsC]
    have l4 : (votC x).length = 2 := rfl
    rw [e, List.length_append, l4, ih, List.length_cons]
    omega
theorem get_votsC (xs : List Vot) : ∀ i, i < xs.length → (votsC xs)[i * 2]? = some (.int .i64 (xs.getD i default).bal) ∧ (votsC xs)[i * 2 + 1]? = some (.int .i64 (xs.getD i default).val) := by
  induction xs with
  | nil => intro i h; simp at h
  | cons x r ih =>
    intro i h
    cases i with
    | zero => simp [votsC, votC]
    | succ i =>
      have := ih i (by simpa using h)
      have e : votsC (x :: r) = votC x ++ votsC r := by simp [votsC]
      have l4 : (votC x).length = 2 := rfl
      rw [e]
      refine ⟨?_, ?_⟩
      all_goals rw [List.getElem?_append_right (by omega), l4]
      · rw [show (i + 1) * 2 - 2 = i * 2 by omega]; simpa using this.1
      · rw [show (i + 1) * 2 + 1 - 2 = i * 2 + 1 by omega]; simpa using this.2
theorem VotsV_of_owns {w : World} {base e : Nat} {v : Value} {xs : List Vot} (h : w.ownsRow base e 2 v xs.length (votsC xs)) : VotsV w v xs := by
  rcases h.2 with ⟨rfl, hn⟩ | ⟨g, cap, cur, rfl, hb, hg, hnc, hcm, hcs, htake⟩
  · exact ⟨none, 0, by rw [hn], by omega, by unfold maxLen; omega, fun i hi => by omega⟩
  · refine ⟨some ⟨g, 0, none⟩, cap, rfl, hnc, hcm, fun i hi => ⟨g, 0, rfl, ?_⟩⟩
    obtain ⟨h0, h1⟩ := get_votsC xs i hi
    simp only [Nat.zero_add, votCells]
    exact ⟨(h.cellAt _ (by omega)).trans h0, (h.cellAt _ (by omega)).trans h1⟩
def votUpto (k : Nat) (cs : List Value) (xs : List Vot) : Prop := ∀ j, j < k * 2 → cs[j]? = (votsC xs)[j]?
theorem votUpto_full {n : Nat} {cs : List Value} {xs : List Vot} (h : votUpto n cs xs) (hl : cs.length = n * 2) (hn : xs.length = n) : cs = votsC xs := by
  apply List.ext_getElem?
  intro j
  by_cases hj : j < n * 2
  · exact h j hj
  · rw [List.getElem?_eq_none (by omega), List.getElem?_eq_none (by rw [length_votsC]; omega)]
theorem votUpto_set {k : Nat} {cs : List Value} {xs : List Vot} {x : Vot} (h : votUpto k cs xs) (hk : k < xs.length) (hl : cs.length = xs.length * 2) (he : x = xs.getD k default) :
    votUpto (k + 1) ((cs.set (k * 2) (.int .i64 x.bal)).set (k * 2 + 1) (.int .i64 x.val)) xs := by
  intro j hj
  obtain ⟨h0, h1⟩ := get_votsC xs k hk
  subst he
  simp only [List.getElem?_set, List.length_set]
  by_cases e1 : k * 2 + 1 = j
  · subst e1; simp [h1]; omega
  by_cases e0 : k * 2 = j
  · subst e0; simp [h0]; omega
  simp [e0, e1]
  exact h j (by omega)
def votMark (k : Int) (i : Nat) : Vot := ⟨k + 2 * i, k + 2 * i + 1⟩
def votMarks (k : Int) (n : Nat) : List Vot := (List.range n).map (votMark k)
theorem length_votMarks (k : Int) (n : Nat) : (votMarks k n).length = n := by simp [votMarks]
theorem getD_votMarks (k : Int) (n i : Nat) (h : i < n) : (votMarks k n).getD i default = votMark k i := by simp [votMarks, List.getD, h]
set_option maxHeartbeats 1000000 in
theorem markVoteS_any (v : Value) (n : Nat) (cs : List Value) (base e : Nat) (k : Int) (w : World) (ho : w.ownsRow base e 2 v n cs) (hn : n ≤ 1048576) (hk0 : 0 ≤ k) (hk1 : k ≤ 1073741824) :
    Calls Try.prog 90 #[v, .int .i64 k] w fun r w' => r = .returned (.int .i64 (k + 2 * n)) ∧ w'.ownsRow base e 2 v n (votsC (votMarks k n)) ∧ w.grownBy w' v.ownBlock := by
  rcases ho.2 with ⟨rfl, rfl⟩ | ⟨g, cap, cur, rfl, hb, hg, hnc, hcm, _, _⟩
  · go_enter Try.func90, Try.ntmps90
    go_wp2
    go_loopw [1, 5] (fun q i w' => q = .int .i64 k ∧ i = .int .i64 0 ∧ w' = w) (fun _ _ _ => 0)
    case atStart => exact ⟨rfl, rfl, rfl⟩
    case round =>
      obtain ⟨rfl, rfl, rfl⟩ := hrel
      go_wp2
      go_ret
      exact ⟨by simp, World.ownsRow_nil _ _ _ _, ⟨rfl, rfl, rfl, Nat.le_refl _, fun _ _ _ => rfl⟩⟩
  · unfold maxLen at hcm
    go_enter Try.func90, Try.ntmps90
    go_wp2
    go_loopw [1, 5] (fun q i w' => ∃ (j : Nat) (cs' : List Value), j ≤ n ∧ i = .int .i64 j ∧ q = .int .i64 (k + 2 * j) ∧ w'.ownsRow base e 2 (.slice (some ⟨g, 0, none⟩) n cap) n cs' ∧ votUpto j cs' (votMarks k n) ∧ w.grownBy w' (some g)) (fun _ i _ => n - (intOf i).toNat)
    case atStart => exact ⟨0, cs, Nat.zero_le _, rfl, by simp, ho, fun j h => by omega, ⟨rfl, rfl, rfl, Nat.le_refl _, fun _ _ _ => rfl⟩⟩
    case round =>
      obtain ⟨j, cs', hj, rfl, rfl, ho1, hup, hgr⟩ := hrel
      have HU : Hid (votUpto j cs' (votMarks k n)) := hup
      clear hup ho hg
      by_cases hlt : j < n
      · obtain ⟨u0, g0⟩ := owns_some ho1 (j * 2) (by omega)
        obtain ⟨u1, g1⟩ := owns_some ho1 (j * 2 + 1) (by omega)
        have hf := fun j => ho1.frozenAt j
        go_wp2
        have s0 := ho1.stored (j * 2) (.int .i64 (k + 2 * j))
        have s1 := s0.1.stored (j * 2 + 1) (.int .i64 (k + 2 * j + 1))
        refine ⟨⟨j + 1, _, by omega, by go_num, ?_, s1.1, votUpto_set (x := votMark k j) HU.out (by rw [length_votMarks]; exact hlt) (by rw [length_votMarks]; exact ho1.1) (getD_votMarks k n j hlt).symm, grownTrans (grownTrans (hgr) s0.2) s1.2⟩, by simp [intOf]; omega⟩
        congr 1
        omega
      · go_wp2
        go_ret
        have hjn : j = n := by omega
        subst hjn
        have e' := votUpto_full HU.out ho1.1 (length_votMarks k j)
        rw [e'] at ho1
        exact ⟨rfl, ho1, hgr⟩
set_option maxHeartbeats 1000000 in
theorem heldVoteS_any (v : Value) (n : Nat) (k : Int) (w : World) (hv : VotsV w v (votMarks k n)) (hn : n ≤ 1048576) (hk0 : 0 ≤ k) (hk1 : k ≤ 1073741824) :
    Calls Try.prog 91 #[v, .int .i64 k] w fun r w' => r = .returned (.int .i64 (k + 2 * n)) ∧ w' = w := by
  obtain ⟨a, cap, rfl, hnc, hcm, hc⟩ := hv
  rw [length_votMarks] at hnc hc ⊢
  unfold maxLen at hcm
  go_enter Try.func91, Try.ntmps91
  go_wp2
  go_loopw [1, 5] (fun q i w' => ∃ j : Nat, j ≤ n ∧ i = .int .i64 j ∧ q = .int .i64 (k + 2 * j) ∧ w' = w) (fun _ i _ => n - (intOf i).toNat)
  case atStart => exact ⟨0, Nat.zero_le _, rfl, by simp, rfl⟩
  case round =>
    obtain ⟨j, hj, rfl, rfl, rfl⟩ := hrel
    by_cases hlt : j < n
    · obtain ⟨b, o, rfl, h1⟩ := hc j hlt
      rw [getD_votMarks k n j hlt] at h1
      obtain ⟨g0, g1⟩ := h1
      simp only [votMark] at g0 g1
      clear hc
      go_wp2
      refine ⟨⟨j + 1, by omega, by go_num, ?_, trivial⟩, by simp [intOf]; omega⟩
      congr 1
      omega
    · go_wp2
      go_ret
      have hjn : j = n := by omega
      subst hjn
      exact ⟨rfl, rfl⟩
end Go.Proofs.Ytjemciikdijokaa

/-
  Rows of impl.Vote: the uniform forms. (Written by program: nest.py.)
-/
namespace Go.Proofs.Ytjemciikdijokaa
open Go.RowKit
set_option linter.unusedSectionVars false
variable [DecidableEq Vot] [Inhabited Vot]
attribute [local go_sem ↓] Go.wp_at_zero Go.wp_at_succ

def votsR : Rep (List Vot) := fRep 106 2 votsC VotsV VotsV_below VotsV_of_owns
def wtVots (xs : List Vot) : Nat := xs.length
def cntVots (xs : List Vot) : Nat := 2 * xs.length
def mkVots (k : Int) (xs : List Vot) : List Vot := votMarks k xs.length
theorem vots_cnt (d : List Vot) : cntVots d ≤ 2 * wtVots d := by unfold cntVots wtVots; omega
theorem eqVoteS_u (x y : Value) (d d' : List Vot) (w : World) (hx : votsR.V w x d) (hy : votsR.V w y d') :
    Calls Try.prog 98 #[x, y] w fun e w' => e = .returned (.bool (decide (d = d'))) ∧ Below w.heap.size w w' := eqVoteS_any x y d d' w hx hy
theorem markVoteS_u (v : Value) (d : List Vot) (base : Nat) (F : Nat → Prop) (k : Int) (w : World) (ho : votsR.O w base F v d) (hw : wtVots d ≤ 1048576) (hn : k + cntVots d ≤ 1073741824) (hk0 : 0 ≤ k) :
    Calls Try.prog 90 #[v, .int .i64 k] w fun r w' => r = .returned (.int .i64 (k + cntVots d)) ∧ votsR.O w' base F v (mkVots k d) ∧ Mod F w w' := by
  refine (markVoteS_any v d.length _ base _ k w ho.1 hw hk0 (by omega)).mono ?_
  rintro e w' ⟨rfl, h1, h2⟩
  refine ⟨by simp [cntVots], ⟨?_, ho.2⟩, by rw [ho.2]; exact Mod.of_grown h2⟩
  unfold mkVots
  rw [length_votMarks]
  exact h1
theorem heldVoteS_u (v : Value) (d : List Vot) (k : Int) (w : World) (hv : votsR.V w v (mkVots k d)) (hw : wtVots d ≤ 1048576) (hn : k + cntVots d ≤ 1073741824) (hk0 : 0 ≤ k) :
    Calls Try.prog 91 #[v, .int .i64 k] w fun r w' => r = .returned (.int .i64 (k + cntVots d)) ∧ Below w.heap.size w w' := by
  refine (heldVoteS_any v d.length k w hv hw hk0 (by omega)).mono ?_
  rintro e w' ⟨rfl, rfl⟩
  exact ⟨by simp [cntVots], Below.refl _ _⟩
end Go.Proofs.Ytjemciikdijokaa

/-
  Slot. (Written by program: nest.py.)
-/
namespace Go.Proofs.Ytjemciikdijokaa
open Go.RowKit
set_option linter.unusedSectionVars false
variable [DecidableEq Vot] [Inhabited Vot]
attribute [local go_sem ↓] Go.wp_at_zero Go.wp_at_succ

set_option linter.unusedSimpArgs false

structure Slt where
  con : Int
  sh : Int
  pr : Int
  lb : Int
  lv : Int
  cast : List Vot
variable [DecidableEq Slt] [Inhabited Slt]

def sltR : Rep Slt where
  V := fun w v x => ∃ u1, v = .agg #[.int .i64 x.con, .int .i64 x.sh, .int .i64 x.pr, .int .i64 x.lb, .int .i64 x.lv, u1] ∧ votsR.V w u1 x.cast
  O := fun w base F v x => ∃ u1 F1, v = .agg #[.int .i64 x.con, .int .i64 x.sh, .int .i64 x.pr, .int .i64 x.lb, .int .i64 x.lv, u1] ∧ votsR.O w base F1 u1 x.cast ∧ (∀ b, F b ↔ (F1 b))
  below := fun h hb => by
    obtain ⟨u1, rfl, h1⟩ := h
    exact ⟨u1, rfl, votsR.below h1 hb⟩
  ofO := fun h => by
    obtain ⟨u1, F1, rfl, h1, _⟩ := h
    exact ⟨u1, rfl, votsR.ofO h1⟩
  mod := fun h hm hd => by
    obtain ⟨u1, F1, rfl, h1, hF⟩ := h
    exact ⟨u1, F1, rfl, votsR.mod h1 hm (fun b hb => hd b ((hF b).2 hb)), hF⟩
  rng := fun h b hb => by
    obtain ⟨u1, F1, rfl, h1, hF⟩ := h
    rcases (hF b).1 hb with hb
    · exact votsR.rng h1 b hb
  base := fun h hb => by
    obtain ⟨u1, F1, rfl, h1, hF⟩ := h
    exact ⟨u1, F1, rfl, votsR.base h1 hb, hF⟩
def wtSlt (x : Slt) : Nat := wtVots x.cast
def lvSlt (v : Value) : List Value := match v with | .agg a => one (a.getD 0 (.int .i64 0)) ++ one (a.getD 1 (.int .i64 0)) ++ one (a.getD 2 (.int .i64 0)) ++ one (a.getD 3 (.int .i64 0)) ++ one (a.getD 4 (.int .i64 0)) ++ one (a.getD 5 (.int .i64 0)) | _ => []
def cntElSlt (x : Slt) : Nat := 1 + 1 + 1 + 1 + 1 + cntVots x.cast
def mkElSlt (k : Int) (x : Slt) : Slt := { con := k, sh := k + 1, pr := k + 1 + 1, lb := k + 1 + 1 + 1, lv := k + 1 + 1 + 1 + 1, cast := mkVots (k + 1 + 1 + 1 + 1 + 1) x.cast }
theorem slt_cntEl (d : Slt) : cntElSlt d ≤ 7 * (1 + wtSlt d) := by
  unfold cntElSlt wtSlt
  have q1 := vots_cnt d.cast
  omega
set_option maxHeartbeats 1000000 in
theorem eqSlot_u (x y : Value) (d d' : Slt) (w : World) (hx : sltR.V w x d) (hy : sltR.V w y d') :
    Calls Try.prog 95 #[x, y] w fun e w' => e = .returned (.bool (decide (d = d'))) ∧ Below w.heap.size w w' := by
  obtain ⟨u1, rfl, h1⟩ := hx
  obtain ⟨v1, rfl, k1⟩ := hy
  obtain ⟨con, sh, pr, lb, lv, cast⟩ := d
  obtain ⟨con', sh', pr', lb', lv', cast'⟩ := d'
  dsimp only at h1 k1
  go_enter Try.func95, Try.ntmps95
  go_wp2_with fail
  all_goals try (go_ret; exact ⟨by first | (simp_all; done) | (simp_all; intros; exfalso; omega), by (repeat (first | exact Below.refl _ _ | assumption | refine Below.drew ?_ | refine balloc ?_ _ | refine bset ?_ (by simp; omega) _ | refine bset ?_ (by simp) _ | refine bstep ?_ (by assumption)))⟩)
  refine (eqVote_any ⟨lb, lv⟩ ⟨lb', lv'⟩ _).mono ?_
  rintro e w0 ⟨rfl, b0⟩
  have x0 : w0.cell? ⟨w.heap.size, 0, none⟩ = some (.int .i64 con) := cell_keep b0 (by simp [go_sem])
  have x1 : w0.cell? ⟨w.heap.size, 1, none⟩ = some (.int .i64 sh) := cell_keep b0 (by simp [go_sem])
  have x2 : w0.cell? ⟨w.heap.size, 2, none⟩ = some (.int .i64 pr) := cell_keep b0 (by simp [go_sem])
  have x3 : w0.cell? ⟨w.heap.size, 3, none⟩ = some (.int .i64 lb) := cell_keep b0 (by simp [go_sem])
  have x4 : w0.cell? ⟨w.heap.size, 4, none⟩ = some (.int .i64 lv) := cell_keep b0 (by simp [go_sem])
  have x5 : w0.cell? ⟨w.heap.size, 5, none⟩ = some (u1) := cell_keep b0 (by simp [go_sem])
  have y0 : w0.cell? ⟨w.heap.size + 1, 0, none⟩ = some (.int .i64 con') := cell_keep b0 (by simp [go_sem])
  have y1 : w0.cell? ⟨w.heap.size + 1, 1, none⟩ = some (.int .i64 sh') := cell_keep b0 (by simp [go_sem])
  have y2 : w0.cell? ⟨w.heap.size + 1, 2, none⟩ = some (.int .i64 pr') := cell_keep b0 (by simp [go_sem])
  have y3 : w0.cell? ⟨w.heap.size + 1, 3, none⟩ = some (.int .i64 lb') := cell_keep b0 (by simp [go_sem])
  have y4 : w0.cell? ⟨w.heap.size + 1, 4, none⟩ = some (.int .i64 lv') := cell_keep b0 (by simp [go_sem])
  have y5 : w0.cell? ⟨w.heap.size + 1, 5, none⟩ = some (v1) := cell_keep b0 (by simp [go_sem])
  go_wp2_with fail
  all_goals try (go_ret; exact ⟨by first | (simp_all; done) | (simp_all; intros; exfalso; omega), by (repeat (first | exact Below.refl _ _ | assumption | refine Below.drew ?_ | refine balloc ?_ _ | refine bset ?_ (by simp; omega) _ | refine bset ?_ (by simp) _ | refine bstep ?_ (by assumption)))⟩)
  refine (eqVoteS_u _ _ cast cast' _ (votsR.below h1 (by (repeat (first | exact Below.refl _ _ | assumption | refine Below.drew ?_ | refine balloc ?_ _ | refine bset ?_ (by simp; omega) _ | refine bset ?_ (by simp) _ | refine bstep ?_ (by assumption))))) (votsR.below k1 (by (repeat (first | exact Below.refl _ _ | assumption | refine Below.drew ?_ | refine balloc ?_ _ | refine bset ?_ (by simp; omega) _ | refine bset ?_ (by simp) _ | refine bstep ?_ (by assumption)))))).mono ?_
  rintro e w1 ⟨rfl, b1⟩
  go_wp2
  all_goals
    go_ret
    exact ⟨by first | (simp_all; done) | (simp_all; intros; exfalso; omega), by (repeat (first | exact Below.refl _ _ | assumption | refine Below.drew ?_ | refine balloc ?_ _ | refine bset ?_ (by simp; omega) _ | refine bset ?_ (by simp) _ | refine bstep ?_ (by assumption)))⟩
end Go.Proofs.Ytjemciikdijokaa

/-
  Rows of Slot. (Written by program: nest.py.)
-/
namespace Go.Proofs.Ytjemciikdijokaa
open Go.RowKit
set_option linter.unusedSectionVars false
variable [DecidableEq Vot] [Inhabited Vot] [DecidableEq Slt] [Inhabited Slt]
attribute [local go_sem ↓] Go.wp_at_zero Go.wp_at_succ

def sltsR : Rep (List Slt) := nRep sltR 131 6 lvSlt
def wtSlts (xs : List Slt) : Nat := wtL wtSlt xs
def cntSlts (xs : List Slt) : Nat := cntL cntElSlt xs
def mkSlts (k : Int) (xs : List Slt) : List Slt := mkL mkElSlt cntElSlt k xs
theorem slts_cnt (d : List Slt) : cntSlts d ≤ 7 * wtSlts d := cntL_le (fun x => slt_cntEl x) d
theorem keepSlts {w w' : World} {a0 a1 a2 a3 a4 a5 a6 a7 a8 a9 a10 a11 : Addr} {x0 x1 x2 x3 x4 x5 x6 x7 x8 x9 x10 x11 : Value} (hb : Below w.heap.size w w') (g0 : w.cell? a0 = some x0) (g1 : w.cell? a1 = some x1) (g2 : w.cell? a2 = some x2) (g3 : w.cell? a3 = some x3) (g4 : w.cell? a4 = some x4) (g5 : w.cell? a5 = some x5) (g6 : w.cell? a6 = some x6) (g7 : w.cell? a7 = some x7) (g8 : w.cell? a8 = some x8) (g9 : w.cell? a9 = some x9) (g10 : w.cell? a10 = some x10) (g11 : w.cell? a11 = some x11) : Below w.heap.size w w' ∧ w'.cell? a0 = some x0 ∧ w'.cell? a1 = some x1 ∧ w'.cell? a2 = some x2 ∧ w'.cell? a3 = some x3 ∧ w'.cell? a4 = some x4 ∧ w'.cell? a5 = some x5 ∧ w'.cell? a6 = some x6 ∧ w'.cell? a7 = some x7 ∧ w'.cell? a8 = some x8 ∧ w'.cell? a9 = some x9 ∧ w'.cell? a10 = some x10 ∧ w'.cell? a11 = some x11 :=
  ⟨hb, cell_keep hb g0, cell_keep hb g1, cell_keep hb g2, cell_keep hb g3, cell_keep hb g4, cell_keep hb g5, cell_keep hb g6, cell_keep hb g7, cell_keep hb g8, cell_keep hb g9, cell_keep hb g10, cell_keep hb g11⟩
set_option maxHeartbeats 1000000 in
theorem eqSlotS_u (x y : Value) (xs ys : List Slt) (w : World) (hx : sltsR.V w x xs) (hy : sltsR.V w y ys) :
    Calls Try.prog 86 #[x, y] w fun e w' => e = .returned (.bool (decide (xs = ys))) ∧ Below w.heap.size w w' := by
  obtain ⟨ax, cx, rfl, hcx, hmx, hx⟩ := hx
  obtain ⟨ay, cy, rfl, hcy, hmy, hy⟩ := hy
  unfold maxLen at hmx hmy
  by_cases hl : ys.length = xs.length
  · rw [hl] at hcy hy ⊢
    have HL : Hid (ys.length = xs.length) := hl
    clear hl
    generalize hn : xs.length = n at *
    have HN : Hid (xs.length = n) := hn
    clear hn
    go_enter Try.func86, Try.ntmps86
    go_wp2
    go_loopw [5] (fun i w' => ∃ k : Nat, k ≤ n ∧ i = .int .i64 k ∧ (∀ j, j < k → xs.getD j default = ys.getD j default) ∧ Below w.heap.size w w') (fun i _ => n - (intOf i).toNat)
    case atStart => exact ⟨0, Nat.zero_le _, rfl, fun j h => absurd h (Nat.not_lt_zero _), Below.refl _ _⟩
    case round =>
      obtain ⟨k, hk, rfl, hpre, hbl⟩ := hrel
      have HP : Hid (∀ j, j < k → xs.getD j default = ys.getD j default) := hpre
      clear hpre
      by_cases hlt : k < n
      · obtain ⟨bx, ox, ux, rfl, _, p1, hvx⟩ := hx k hlt
        obtain ⟨b2, oy, uy, rfl, _, p2, hvy⟩ := hy k hlt
        obtain ⟨l1, hl1⟩ : ∃ l, l = xs.getD k default := ⟨_, rfl⟩
        obtain ⟨l2, hl2⟩ : ∃ l, l = ys.getD k default := ⟨_, rfl⟩
        rw [← hl1] at hvx
        rw [← hl2] at hvy
        have H1 : Hid (l1 = xs.getD k default) := hl1
        have H2 : Hid (l2 = ys.getD k default) := hl2
        have hvx' := hvx
        obtain ⟨ux1, rfl, _⟩ := hvx'
        have hvy' := hvy
        obtain ⟨uy1, rfl, _⟩ := hvy'
        have g0 : w.cell? ⟨bx, ox + k * 6, none⟩ = some (.int .i64 l1.con) := p1 0 (by omega)
        have g1 : w.cell? ⟨bx, ox + k * 6 + 1, none⟩ = some (.int .i64 l1.sh) := p1 1 (by omega)
        have g2 : w.cell? ⟨bx, ox + k * 6 + 2, none⟩ = some (.int .i64 l1.pr) := p1 2 (by omega)
        have g3 : w.cell? ⟨bx, ox + k * 6 + 3, none⟩ = some (.int .i64 l1.lb) := p1 3 (by omega)
        have g4 : w.cell? ⟨bx, ox + k * 6 + 4, none⟩ = some (.int .i64 l1.lv) := p1 4 (by omega)
        have g5 : w.cell? ⟨bx, ox + k * 6 + 5, none⟩ = some (ux1) := p1 5 (by omega)
        have g6 : w.cell? ⟨b2, oy + k * 6, none⟩ = some (.int .i64 l2.con) := p2 0 (by omega)
        have g7 : w.cell? ⟨b2, oy + k * 6 + 1, none⟩ = some (.int .i64 l2.sh) := p2 1 (by omega)
        have g8 : w.cell? ⟨b2, oy + k * 6 + 2, none⟩ = some (.int .i64 l2.pr) := p2 2 (by omega)
        have g9 : w.cell? ⟨b2, oy + k * 6 + 3, none⟩ = some (.int .i64 l2.lb) := p2 3 (by omega)
        have g10 : w.cell? ⟨b2, oy + k * 6 + 4, none⟩ = some (.int .i64 l2.lv) := p2 4 (by omega)
        have g11 : w.cell? ⟨b2, oy + k * 6 + 5, none⟩ = some (uy1) := p2 5 (by omega)
        clear hl1 hl2 hx hy p1 p2
        go_wp2
        go_region_held3 (fun w' => Below w.heap.size w w' ∧ w'.cell? ⟨bx, ox + k * 6, none⟩ = some (.int .i64 l1.con) ∧ w'.cell? ⟨bx, ox + k * 6 + 1, none⟩ = some (.int .i64 l1.sh) ∧ w'.cell? ⟨bx, ox + k * 6 + 2, none⟩ = some (.int .i64 l1.pr) ∧ w'.cell? ⟨bx, ox + k * 6 + 3, none⟩ = some (.int .i64 l1.lb) ∧ w'.cell? ⟨bx, ox + k * 6 + 4, none⟩ = some (.int .i64 l1.lv) ∧ w'.cell? ⟨bx, ox + k * 6 + 5, none⟩ = some (ux1) ∧ w'.cell? ⟨b2, oy + k * 6, none⟩ = some (.int .i64 l2.con) ∧ w'.cell? ⟨b2, oy + k * 6 + 1, none⟩ = some (.int .i64 l2.sh) ∧ w'.cell? ⟨b2, oy + k * 6 + 2, none⟩ = some (.int .i64 l2.pr) ∧ w'.cell? ⟨b2, oy + k * 6 + 3, none⟩ = some (.int .i64 l2.lb) ∧ w'.cell? ⟨b2, oy + k * 6 + 4, none⟩ = some (.int .i64 l2.lv) ∧ w'.cell? ⟨b2, oy + k * 6 + 5, none⟩ = some (uy1)) ((refine keepSlts ?_ g0 g1 g2 g3 g4 g5 g6 g7 g8 g9 g10 g11; (repeat (first | exact Below.refl _ _ | assumption | refine Below.drew ?_ | refine balloc ?_ _ | refine bstep ?_ (by assumption))))) (first | (go_at_call 95; refine (eqSlot_u (.agg #[.int .i64 l1.con, .int .i64 l1.sh, .int .i64 l1.pr, .int .i64 l1.lb, .int .i64 l1.lv, ux1]) (.agg #[.int .i64 l2.con, .int .i64 l2.sh, .int .i64 l2.pr, .int .i64 l2.lb, .int .i64 l2.lv, uy1]) l1 l2 _ (sltR.below hvx (by (repeat (first | exact Below.refl _ _ | assumption | refine Below.drew ?_ | refine balloc ?_ _ | refine bstep ?_ (by assumption))))) (sltR.below hvy (by (repeat (first | exact Below.refl _ _ | assumption | refine Below.drew ?_ | refine balloc ?_ _ | refine bstep ?_ (by assumption)))))).mono ?_; rintro e w' ⟨rfl, hb1⟩))
        rename_i hH
        have hB := hH.1
        clear hH
        go_wp2
        · rename_i hle
          go_ret
          refine ⟨?_, hB⟩
          have : ¬ xs = ys := fun h => by
            have : l1 = l2 := by rw [H1.out, H2.out, h]
            simp [this] at hle
          simp [this]
        · rename_i hle
          refine ⟨⟨k + 1, by omega, by go_num, fun j hj => ?_, hB⟩, by simp [intOf]; omega⟩
          by_cases hjk : j < k
          · exact HP.out j hjk
          · have : j = k := by omega
            subst this
            rw [← H1.out, ← H2.out]
            simpa using hle
      · go_wp2
        go_ret
        have : k = n := by omega
        subst this
        refine ⟨?_, hbl⟩
        have : xs = ys := rows_eq_of (by rw [HL.out, HN.out]) (by rw [HN.out]; exact HP.out)
        simp [this]
  · go_enter Try.func86, Try.ntmps86
    have hl' : ((xs.length : Int) == (ys.length : Int)) = false := by simp; omega
    go_wp2
    go_ret
    have : ¬ xs = ys := fun h => hl (by rw [h])
    exact ⟨by simp [this], Below.refl _ _⟩
set_option maxHeartbeats 1000000 in
theorem heldSlotS_u (v : Value) (xs : List Slt) (k : Int) (w : World) (hv : sltsR.V w v (mkSlts k xs)) (hw : wtSlts xs ≤ 1048576) (hn : k + cntSlts xs ≤ 1073741824) (hk0 : 0 ≤ k) :
    Calls Try.prog 79 #[v, .int .i64 k] w fun r w' => r = .returned (.int .i64 (k + cntSlts xs)) ∧ Below w.heap.size w w' := by
  obtain ⟨a, cap, rfl, hnc, hcm, hc⟩ := hv
  unfold mkSlts at hnc hc ⊢
  rw [length_mkL] at hnc hc ⊢
  unfold maxLen at hcm
  have hW : ∀ k, k < xs.length → wtSlt (xs.getD k default) ≤ 1048576 := fun k hk => (wt_at hw hk).1
  unfold cntSlts cntL at hn ⊢
  have HT : Hid (∀ j, j < xs.length → (mkL mkElSlt cntElSlt k xs).getD j default = mkElSlt (k + cntTo cntElSlt j xs) (xs.getD j default) ∧ cntTo cntElSlt (j + 1) xs = cntTo cntElSlt j xs + cntElSlt (xs.getD j default) ∧ cntTo cntElSlt (j + 1) xs ≤ cntTo cntElSlt xs.length xs) :=
    fun j hj => ⟨getD_mkL _ _ _ _ _ hj, cntTo_succ _ j xs hj, cntTo_le _ _ _ _ hj⟩
  clear hw
  generalize xs.length = n at *
  go_enter Try.func79, Try.ntmps79
  go_wp2
  go_loopw [1, 5] (fun q i w' => ∃ j : Nat, j ≤ n ∧ i = .int .i64 j ∧ q = .int .i64 (k + cntTo cntElSlt j xs) ∧ Below w.heap.size w w') (fun _ i _ => n - (intOf i).toNat)
  case atStart => exact ⟨0, Nat.zero_le _, rfl, by simp [cntTo], Below.refl _ _⟩
  case round =>
    obtain ⟨j, hj, rfl, rfl, hbl⟩ := hrel
    by_cases hlt : j < n
    · obtain ⟨bx, ox, ux, rfl, _, p1, hvx⟩ := hc j hlt
      obtain ⟨t1, t2, t3⟩ := HT.out j hlt
      have hw1 := hW j hlt
      rw [t1] at hvx
      generalize xs.getD j default = l at *
      have tC : cntElSlt l = 1 + 1 + 1 + 1 + 1 + cntVots l.cast := rfl
      rw [tC] at t2
      have tW : wtSlt l = wtVots l.cast := rfl
      rw [tW] at hw1
      clear tC tW
      obtain ⟨q, hq⟩ : ∃ q, q = k + cntTo cntElSlt j xs := ⟨_, rfl⟩
      have hq0 : 0 ≤ q := by omega
      rw [← hq] at hvx ⊢
      have T2 : Hid (k + cntTo cntElSlt (j + 1) xs = q + 1 + 1 + 1 + 1 + 1 + cntVots l.cast) := by show _ = _; omega
      have hq1 : q + 1 + 1 + 1 + 1 + 1 + cntVots l.cast ≤ 1073741824 := by omega
      obtain ⟨ux1, rfl, hv1⟩ := hvx
      dsimp only [mkElSlt] at hv1
      have g0 : w.cell? ⟨bx, ox + j * 6, none⟩ = some (.int .i64 (q)) := p1 0 (by omega)
      replace g0 := cell_keep hbl g0
      have g1 : w.cell? ⟨bx, ox + j * 6 + 1, none⟩ = some (.int .i64 (q + 1)) := p1 1 (by omega)
      replace g1 := cell_keep hbl g1
      have g2 : w.cell? ⟨bx, ox + j * 6 + 2, none⟩ = some (.int .i64 (q + 1 + 1)) := p1 2 (by omega)
      replace g2 := cell_keep hbl g2
      have g3 : w.cell? ⟨bx, ox + j * 6 + 3, none⟩ = some (.int .i64 (q + 1 + 1 + 1)) := p1 3 (by omega)
      replace g3 := cell_keep hbl g3
      have g4 : w.cell? ⟨bx, ox + j * 6 + 4, none⟩ = some (.int .i64 (q + 1 + 1 + 1 + 1)) := p1 4 (by omega)
      replace g4 := cell_keep hbl g4
      have g5 : w.cell? ⟨bx, ox + j * 6 + 5, none⟩ = some (ux1) := p1 5 (by omega)
      replace g5 := cell_keep hbl g5
      clear hc p1 t1 t2 t3 hW hq
      go_wp2_with fail
      refine (heldVoteS_u ux1 l.cast (q + 1 + 1 + 1 + 1 + 1) _ (votsR.below hv1 (by (repeat (first | exact Below.refl _ _ | assumption | refine Below.drew ?_ | refine balloc ?_ _ | refine bstep ?_ (by assumption))))) (by omega) (by omega) (by omega)).mono ?_
      rintro e wb1 ⟨rfl, b1⟩
      go_wp2
      refine ⟨⟨j + 1, by omega, by go_num, ?_, by (repeat (first | exact Below.refl _ _ | assumption | refine Below.drew ?_ | refine balloc ?_ _ | refine bstep ?_ (by assumption)))⟩, by simp [intOf]; omega⟩
      rw [T2.out]
    · go_wp2
      go_ret
      have hjn : j = n := by omega
      subst hjn
      exact ⟨rfl, hbl⟩
set_option maxHeartbeats 1000000 in
theorem markSlotS_u (v : Value) (xs : List Slt) (base : Nat) (F : Nat → Prop) (k : Int) (w : World) (ho : sltsR.O w base F v xs) (hw : wtSlts xs ≤ 1048576) (hn : k + cntSlts xs ≤ 1073741824) (hk0 : 0 ≤ k) :
    Calls Try.prog 73 #[v, .int .i64 k] w fun r w' => r = .returned (.int .i64 (k + cntSlts xs)) ∧ sltsR.O w' base F v (mkSlts k xs) ∧ Mod F w w' := by
  obtain ⟨cs, us, fs, hp, hF⟩ := ho
  have hW : ∀ k, k < xs.length → wtSlt (xs.getD k default) ≤ 1048576 := fun k hk => (wt_at hw hk).1
  unfold cntSlts cntL at hn ⊢
  have HT : Hid (∀ j, j < xs.length → (mkL mkElSlt cntElSlt k xs).getD j default = mkElSlt (k + cntTo cntElSlt j xs) (xs.getD j default) ∧ cntTo cntElSlt (j + 1) xs = cntTo cntElSlt j xs + cntElSlt (xs.getD j default) ∧ cntTo cntElSlt (j + 1) xs ≤ cntTo cntElSlt xs.length xs) :=
    fun j hj => ⟨getD_mkL _ _ _ _ _ hj, cntTo_succ _ j xs hj, cntTo_le _ _ _ _ hj⟩
  clear hw
  have hcap := hp.len
  obtain ⟨av, cv, hav⟩ := owns_form hp.row
  subst hav
  have HF : Hid (∀ b, F b ↔ ((Value.slice av xs.length cv).ownBlock = some b ∨ ∃ i, i < xs.length ∧ fs i b)) := hF
  have HM : Hid ((mkL mkElSlt cntElSlt k xs).length = xs.length) := length_mkL _ _ _ _
  clear hF
  generalize hxl : xs.length = n at *
  clear hxl
  go_enter Try.func73, Try.ntmps73
  go_wp2
  go_loopw [1, 5] (fun q i w' => ∃ (j : Nat) (cs : List Value) (us : Nat → Value), j ≤ n ∧ i = .int .i64 j ∧ q = .int .i64 (k + cntTo cntElSlt j xs) ∧ PO sltR 131 6 lvSlt w' base (.slice av n cv) n n (fun i => if i < j then (mkL mkElSlt cntElSlt k xs).getD i default else xs.getD i default) cs us fs ∧ Mod F w w') (fun _ i _ => n - (intOf i).toNat)
  case atStart => exact ⟨0, cs, us, Nat.zero_le _, rfl, by simp [cntTo], hp.cast (fun i hi => by simp), Mod.refl _ _⟩
  case round =>
    clear hp
    obtain ⟨j, cs, us, hj, rfl, rfl, hp1, hm⟩ := hrel
    by_cases hlt : j < n
    · have he := hp1.el j hlt
      simp only [Nat.lt_irrefl, if_false] at he
      obtain ⟨g, rfl, hcl⟩ := hp1.at hlt hlt
      obtain ⟨t1, t2, t3⟩ := HT.out j hlt
      have hw1 := hW j hlt
      obtain ⟨l, hl⟩ : ∃ l, l = xs.getD j default := ⟨_, rfl⟩
      rw [← hl] at t1 t2 hw1 he
      have tC : cntElSlt l = 1 + 1 + 1 + 1 + 1 + cntVots l.cast := rfl
      rw [tC] at t2
      have tW : wtSlt l = wtVots l.cast := rfl
      rw [tW] at hw1
      clear tC tW
      obtain ⟨q, hq⟩ : ∃ q, q = k + cntTo cntElSlt j xs := ⟨_, rfl⟩
      have hq0 : 0 ≤ q := by omega
      rw [← hq] at t1 ⊢
      have T1 : Hid ((mkL mkElSlt cntElSlt k xs).getD j default = mkElSlt q l) := t1
      have T2 : Hid (k + cntTo cntElSlt (j + 1) xs = q + 1 + 1 + 1 + 1 + 1 + cntVots l.cast) := by show _ = _; omega
      have hq1 : q + 1 + 1 + 1 + 1 + 1 + cntVots l.cast ≤ 1073741824 := by omega
      obtain ⟨ux1, F1, hu, h1, hF⟩ := he
      rw [hu] at hcl
      have g0 : wr.cell? ⟨g, j * 6, none⟩ = some (.int .i64 l.con) := hcl 0 (by omega)
      have g1 : wr.cell? ⟨g, j * 6 + 1, none⟩ = some (.int .i64 l.sh) := hcl 1 (by omega)
      have g2 : wr.cell? ⟨g, j * 6 + 2, none⟩ = some (.int .i64 l.pr) := hcl 2 (by omega)
      have g3 : wr.cell? ⟨g, j * 6 + 3, none⟩ = some (.int .i64 l.lb) := hcl 3 (by omega)
      have g4 : wr.cell? ⟨g, j * 6 + 4, none⟩ = some (.int .i64 l.lv) := hcl 4 (by omega)
      have g5 : wr.cell? ⟨g, j * 6 + 5, none⟩ = some (ux1) := hcl 5 (by omega)
      have hrow := hp1.row
      have hclen := hrow.1
      have hf := fun j => hrow.frozenAt j
      clear hl t1 t2 t3 hW hq hcl
      go_wp2_with fail
      have st1 := hrow.stored (j * 6) (.int .i64 (q))
      replace h1 := votsR.mod h1 (Mod.of_grown st1.2) (fun b hb he => hp1.out j hlt b ((hF b).2 hb) he)
      have M1 := (Mod.of_grown st1.2).mono (G := fun b => (Value.slice (some ⟨g, 0, none⟩) n cv).ownBlock = some b ∨ fs j b) (fun b hb => .inl hb)
      have st2 := st1.1.stored (j * 6 + 1) (.int .i64 (q + 1))
      replace h1 := votsR.mod h1 (Mod.of_grown st2.2) (fun b hb he => hp1.out j hlt b ((hF b).2 hb) he)
      have M2 := (Mod.of_grown st2.2).mono (G := fun b => (Value.slice (some ⟨g, 0, none⟩) n cv).ownBlock = some b ∨ fs j b) (fun b hb => .inl hb)
      have st3 := st2.1.stored (j * 6 + 2) (.int .i64 (q + 1 + 1))
      replace h1 := votsR.mod h1 (Mod.of_grown st3.2) (fun b hb he => hp1.out j hlt b ((hF b).2 hb) he)
      have M3 := (Mod.of_grown st3.2).mono (G := fun b => (Value.slice (some ⟨g, 0, none⟩) n cv).ownBlock = some b ∨ fs j b) (fun b hb => .inl hb)
      have st4 := st3.1.stored (j * 6 + 3) (.int .i64 (q + 1 + 1 + 1))
      replace h1 := votsR.mod h1 (Mod.of_grown st4.2) (fun b hb he => hp1.out j hlt b ((hF b).2 hb) he)
      have M4 := (Mod.of_grown st4.2).mono (G := fun b => (Value.slice (some ⟨g, 0, none⟩) n cv).ownBlock = some b ∨ fs j b) (fun b hb => .inl hb)
      have st5 := st4.1.stored (j * 6 + 4) (.int .i64 (q + 1 + 1 + 1 + 1))
      replace h1 := votsR.mod h1 (Mod.of_grown st5.2) (fun b hb he => hp1.out j hlt b ((hF b).2 hb) he)
      have M5 := (Mod.of_grown st5.2).mono (G := fun b => (Value.slice (some ⟨g, 0, none⟩) n cv).ownBlock = some b ∨ fs j b) (fun b hb => .inl hb)
      refine (markVoteS_u ux1 l.cast base F1 (q + 1 + 1 + 1 + 1 + 1) _ h1 (by omega) (by omega) (by omega)).mono ?_
      rintro e wb1 ⟨rfl, r1, m1⟩
      have rw1 := m1.owns st5.1 (fun b he hb => hp1.out j hlt b ((hF b).2 hb) he)
      have M6 := m1.mono (G := fun b => (Value.slice (some ⟨g, 0, none⟩) n cv).ownBlock = some b ∨ fs j b) (fun b hb => .inr ((hF b).2 hb))
      go_wp2
      have hq := hp1.turn (u := (.agg #[.int .i64 (q), .int .i64 (q + 1), .int .i64 (q + 1 + 1), .int .i64 (q + 1 + 1 + 1), .int .i64 (q + 1 + 1 + 1 + 1), ux1])) (x := mkElSlt q l) hlt (((((M1.trans M2).trans M3).trans M4).trans M5).trans M6) ⟨ux1, F1, rfl, r1, hF⟩ rfl rw1 ?_ ?_
      · refine ⟨⟨j + 1, _, _, by omega, by go_num, by rw [T2.out], hq.cast fun i hi => ?_, hm.trans ((((((M1.trans M2).trans M3).trans M4).trans M5).trans M6).mono fun b hb => (HF.out b).2 ?_)⟩, by simp [intOf]; omega⟩
        · by_cases hij : i = j
          · subst hij
            rw [upd_at, if_pos (by omega)]
            exact T1.out
          · rw [upd_ne _ _ hij]
            by_cases h : i < j
            · rw [if_pos h, if_pos (by omega)]
            · rw [if_neg h, if_neg (by omega)]
        · rcases hb with hb | hb
          · exact .inl hb
          · exact .inr ⟨j, hlt, hb⟩
      · intro i hi hij o ho
        simp only [List.getElem?_set]
        rw [if_neg (by omega)]; rw [if_neg (by omega)]; rw [if_neg (by omega)]; rw [if_neg (by omega)]; rw [if_neg (by omega)]
      · intro o ho
        have ho' : o = 0 ∨ o = 1 ∨ o = 2 ∨ o = 3 ∨ o = 4 ∨ o = 5 := by omega
        rcases ho' with rfl | rfl | rfl | rfl | rfl | rfl
        · rw [show j * 6 + 0 = j * 6 from rfl, List.getElem?_set_ne (by omega), List.getElem?_set_ne (by omega), List.getElem?_set_ne (by omega), List.getElem?_set_ne (by omega), List.getElem?_set_self (by (try simp only [List.length_set]); omega)]
          rfl
        · rw [List.getElem?_set_ne (by omega), List.getElem?_set_ne (by omega), List.getElem?_set_ne (by omega), List.getElem?_set_self (by (try simp only [List.length_set]); omega)]
          rfl
        · rw [List.getElem?_set_ne (by omega), List.getElem?_set_ne (by omega), List.getElem?_set_self (by (try simp only [List.length_set]); omega)]
          rfl
        · rw [List.getElem?_set_ne (by omega), List.getElem?_set_self (by (try simp only [List.length_set]); omega)]
          rfl
        · rw [List.getElem?_set_self (by (try simp only [List.length_set]); omega)]
          rfl
        · rw [List.getElem?_set_ne (by omega), List.getElem?_set_ne (by omega), List.getElem?_set_ne (by omega), List.getElem?_set_ne (by omega), List.getElem?_set_ne (by omega), hp1.cell j hlt 5 (by omega), hu]
          rfl
    · go_wp2
      go_ret
      have hjn : j = n := by omega
      subst hjn
      refine ⟨rfl, ⟨cs, us, fs, ?_, ?_⟩, hm⟩
      · unfold mkSlts
        rw [HM.out]
        exact hp1.cast (fun i hi => by rw [if_pos hi])
      · unfold mkSlts
        rw [HM.out]
        exact HF.out
end Go.Proofs.Ytjemciikdijokaa

