import Derived.Test.YtncmdeijimgchaaGreatPrnRunBallotLaw14
import Derived.BigQuiet
import Derived.Deep.QuietTactic
import Derived.Deep.RegionHeld3
import Derived.Test.YtncmdeijimgchaaGreatPrnRunBallotLaw3
import Derived.Deep.DrawnRows

/-
  PromiseAt, AcceptAt, the program's.
-/
set_option linter.unusedSimpArgs false
set_option linter.unusedVariables false
namespace Go.Proofs.YtncmdeijimgchaaGreat
open Go.RowKit
set_option linter.unusedSectionVars false
variable [DecidableEq Vot] [Inhabited Vot] [DecidableEq Slt] [Inhabited Slt] [DecidableEq Bal] [Inhabited Bal] [DecidableEq Ledg] [Inhabited Ledg] [DecidableEq Leg] [Inhabited Leg] [DecidableEq Acc] [Inhabited Acc] [DecidableEq SltR] [Inhabited SltR] [DecidableEq AccR] [Inhabited AccR] [DecidableEq AccsR] [Inhabited AccsR] [DecidableEq SltsR] [Inhabited SltsR]
attribute [local go_sem ↓] Go.wp_at_zero Go.wp_at_succ

set_option maxHeartbeats 1000000 in
theorem implPromAt_u (x : Value) (d : Acc) (c s b : Int) (w : World) (hx : accR.V w x d) :
    Calls Tryz.prog 72 #[x, .int .i64 c, .int .i64 s, .int .i64 b] w (AskE (promAtD d.slots c s b) w) := by
  have HA : Hid (∀ W, Below w.heap.size w W → Calls Tryz.prog 75 #[x, .int .i64 c, .int .i64 s, .iface 143 (.int .i64 b)] W (AskE (promAtD d.slots c s b) W)) := fun W hW => askAt_u (fun d => promD d b) (.iface 143 (.int .i64 b)) (fun W x d hx hf => answerP_u x d b W hx hf) x d c s W (accR.below hx hW)
  generalize promAtD d.slots c s b = R at *
  obtain ⟨u1, rfl, hx⟩ := hx
  obtain ⟨au, cu, rfl⟩ := slts_form hx
  clear hx
  generalize d.slots.length = n at *
  go_enter Tryz.func72, Tryz.ntmps72
  go_wp2_with fail
  refine (HA.out _ (by (repeat (first | exact Below.refl _ _ | assumption | refine Below.drew ?_ | refine balloc ?_ _ | refine bset ?_ (by simp; omega) _ | refine bset ?_ (by simp) _ | refine bstep ?_ (by assumption))))).mono ?_
  rintro e w1 ⟨v, F, rfl, o1, hb1⟩
  obtain ⟨av, cv, rfl, o2⟩ := accR_cells o1
  have hB1 : Below w.heap.size w w1 := by (repeat (first | exact Below.refl _ _ | assumption | refine Below.drew ?_ | refine balloc ?_ _ | refine bset ?_ (by simp; omega) _ | refine bset ?_ (by simp) _ | refine bstep ?_ (by assumption)))
  have hz1 := hb1.size
  simp at hz1
  obtain ⟨c1, f1⟩ := bcell hb1
  have r0 : w1.cell? ⟨w.heap.size + 1, 0, none⟩ = some (.int .i64 0) := cell_keep hb1 (by simp [go_sem])
  have r1 : w1.cell? ⟨w.heap.size + 1, 1, none⟩ = some (.int .i64 0) := cell_keep hb1 (by simp [go_sem])
  have r2 : w1.cell? ⟨w.heap.size + 1, 2, none⟩ = some (.int .i64 0) := cell_keep hb1 (by simp [go_sem])
  have r3 : w1.cell? ⟨w.heap.size + 1, 3, none⟩ = some (.slice none 0 0) := cell_keep hb1 (by simp [go_sem])
  have rf : ∀ o, w1.frozen? ⟨w.heap.size + 1, o, none⟩ = false := fun o => by rw [f1 _ _ (by simp; try omega)]; simp [go_sem]
  have HFl : Hid (∀ b, F b → w.heap.size + 2 ≤ b) := fun b hb => by have := (accR.rng o2 b hb).1; simpa using this
  have HO : Hid (accR.O w1 w.heap.size F (.agg #[.slice av R.acc.slots.length cv]) R.acc) := accR.base o2 (by simp; omega)
  clear hb1 c1 f1 o1 o2 HA
  generalize hm : R.acc.slots.length = m at *
  go_wp2
  refine bodyPost_ret (v := .agg #[.int .i64 R.code, .int .i64 R.ob, .int .i64 R.ov, .slice av m cv]) (by simp [results, Tryz.results72, go_sem, r0, r1, r2, r3, rf]) rfl ⟨_, F, rfl, ⟨_, F, rfl, ?_, fun b => Iff.rfl⟩, by (repeat (first | refine bset ?_ (by simp; omega) _ | refine bset ?_ (by simp) _ | refine balloc ?_ _ | assumption))⟩
  have hk : ∀ (W : World) (u : Value) (j : Nat), accR.O W w.heap.size F (.agg #[.slice av m cv]) R.acc → accR.O (W.setCell ⟨w.heap.size + 1, j, none⟩ u) w.heap.size F (.agg #[.slice av m cv]) R.acc := fun W u j h => Rep.setN _ h u (fun hb => by have := HFl.out _ hb; dsimp only at this; omega)
  exact hk _ _ _ (hk _ _ _ (hk _ _ _ (hk _ _ _ HO.out)))
set_option maxHeartbeats 1000000 in
theorem implAccAt_u (x : Value) (d : Acc) (c s b vl : Int) (w : World) (hx : accR.V w x d) :
    Calls Tryz.prog 41 #[x, .int .i64 c, .int .i64 s, .int .i64 b, .int .i64 vl] w (AskE (accAtD d.slots c s b vl) w) := by
  have HA : Hid (∀ W, Below w.heap.size w W → Calls Tryz.prog 75 #[x, .int .i64 c, .int .i64 s, .iface 116 (.agg #[.int .i64 b, .int .i64 vl])] W (AskE (accAtD d.slots c s b vl) W)) := fun W hW => askAt_u (fun d => accD d b vl) (.iface 116 (.agg #[.int .i64 b, .int .i64 vl])) (fun W x d hx hf => answerV_u x d ⟨b, vl⟩ W hx hf) x d c s W (accR.below hx hW)
  generalize accAtD d.slots c s b vl = R at *
  obtain ⟨u1, rfl, hx⟩ := hx
  obtain ⟨au, cu, rfl⟩ := slts_form hx
  clear hx
  generalize d.slots.length = n at *
  go_enter Tryz.func41, Tryz.ntmps41
  go_wp2_with fail
  refine (HA.out _ (by (repeat (first | exact Below.refl _ _ | assumption | refine Below.drew ?_ | refine balloc ?_ _ | refine bset ?_ (by simp; omega) _ | refine bset ?_ (by simp) _ | refine bstep ?_ (by assumption))))).mono ?_
  rintro e w1 ⟨v, F, rfl, o1, hb1⟩
  obtain ⟨av, cv, rfl, o2⟩ := accR_cells o1
  have hB1 : Below w.heap.size w w1 := by (repeat (first | exact Below.refl _ _ | assumption | refine Below.drew ?_ | refine balloc ?_ _ | refine bset ?_ (by simp; omega) _ | refine bset ?_ (by simp) _ | refine bstep ?_ (by assumption)))
  have hz1 := hb1.size
  simp at hz1
  obtain ⟨c1, f1⟩ := bcell hb1
  have r0 : w1.cell? ⟨w.heap.size + 1, 0, none⟩ = some (.int .i64 0) := cell_keep hb1 (by simp [go_sem])
  have r1 : w1.cell? ⟨w.heap.size + 1, 1, none⟩ = some (.int .i64 0) := cell_keep hb1 (by simp [go_sem])
  have r2 : w1.cell? ⟨w.heap.size + 1, 2, none⟩ = some (.int .i64 0) := cell_keep hb1 (by simp [go_sem])
  have r3 : w1.cell? ⟨w.heap.size + 1, 3, none⟩ = some (.slice none 0 0) := cell_keep hb1 (by simp [go_sem])
  have rf : ∀ o, w1.frozen? ⟨w.heap.size + 1, o, none⟩ = false := fun o => by rw [f1 _ _ (by simp; try omega)]; simp [go_sem]
  have HFl : Hid (∀ b, F b → w.heap.size + 2 ≤ b) := fun b hb => by have := (accR.rng o2 b hb).1; simpa using this
  have HO : Hid (accR.O w1 w.heap.size F (.agg #[.slice av R.acc.slots.length cv]) R.acc) := accR.base o2 (by simp; omega)
  clear hb1 c1 f1 o1 o2 HA
  generalize hm : R.acc.slots.length = m at *
  go_wp2
  refine bodyPost_ret (v := .agg #[.int .i64 R.code, .int .i64 R.ob, .int .i64 R.ov, .slice av m cv]) (by simp [results, Tryz.results41, go_sem, r0, r1, r2, r3, rf]) rfl ⟨_, F, rfl, ⟨_, F, rfl, ?_, fun b => Iff.rfl⟩, by (repeat (first | refine bset ?_ (by simp; omega) _ | refine bset ?_ (by simp) _ | refine balloc ?_ _ | assumption))⟩
  have hk : ∀ (W : World) (u : Value) (j : Nat), accR.O W w.heap.size F (.agg #[.slice av m cv]) R.acc → accR.O (W.setCell ⟨w.heap.size + 1, j, none⟩ u) w.heap.size F (.agg #[.slice av m cv]) R.acc := fun W u j h => Rep.setN _ h u (fun hb => by have := HFl.out _ hb; dsimp only at this; omega)
  exact hk _ _ _ (hk _ _ _ (hk _ _ _ (hk _ _ _ HO.out)))
end Go.Proofs.YtncmdeijimgchaaGreat

/-
  Legs in memory: what a slice of legs holds, and the contracts of the functions that only compare, count and copy them.
-/
namespace Go.Proofs.YtncmdeijimgchaaGreat
open Go.RowKit
set_option linter.unusedSectionVars false
variable [DecidableEq Leg] [Inhabited Leg]
attribute [local go_sem ↓] Go.wp_at_zero Go.wp_at_succ

def legCells (w : World) (b o : Nat) (l : Leg) : Prop :=
  w.cell? ⟨b, o, none⟩ = some (.int .i64 l.sh) ∧ w.cell? ⟨b, o + 1, none⟩ = some (.int .i64 l.ac) ∧ w.cell? ⟨b, o + 2, none⟩ = some (.int .i64 l.ast) ∧ w.cell? ⟨b, o + 3, none⟩ = some (.int .i64 l.am)
theorem legCells_below {w w' : World} {b o : Nat} {l : Leg} (hb : Below w.heap.size w w') (h : legCells w b o l) : legCells w' b o l := by
  obtain ⟨h1, h2, h3, h4⟩ := h
  have hlt : b < w.heap.size := World.block_lt_of_cell? w _ h1
  exact ⟨(hb.cell (p := ⟨b, o, none⟩) hlt).trans h1, (hb.cell (p := ⟨b, o + 1, none⟩) hlt).trans h2, (hb.cell (p := ⟨b, o + 2, none⟩) hlt).trans h3, (hb.cell (p := ⟨b, o + 3, none⟩) hlt).trans h4⟩
theorem keep2 {w w' : World} {b o b' o' : Nat} {l l' : Leg} (hb : Below w.heap.size w w') (h : legCells w b o l) (h' : legCells w b' o' l') :
    Below w.heap.size w w' ∧ (w'.cell? ⟨b, o, none⟩ = some (.int .i64 l.sh) ∧ w'.cell? ⟨b, o + 1, none⟩ = some (.int .i64 l.ac) ∧ w'.cell? ⟨b, o + 2, none⟩ = some (.int .i64 l.ast) ∧ w'.cell? ⟨b, o + 3, none⟩ = some (.int .i64 l.am)) ∧
      (w'.cell? ⟨b', o', none⟩ = some (.int .i64 l'.sh) ∧ w'.cell? ⟨b', o' + 1, none⟩ = some (.int .i64 l'.ac) ∧ w'.cell? ⟨b', o' + 2, none⟩ = some (.int .i64 l'.ast) ∧ w'.cell? ⟨b', o' + 3, none⟩ = some (.int .i64 l'.am)) :=
  ⟨hb, legCells_below hb h, legCells_below hb h'⟩
end Go.Proofs.YtncmdeijimgchaaGreat

/-
  Marks written into a row of legs that the law owns, and read back.
-/
namespace Go.Proofs.YtncmdeijimgchaaGreat
open Go.RowKit
set_option linter.unusedSectionVars false
variable [DecidableEq Leg] [Inhabited Leg]
attribute [local go_sem ↓] Go.wp_at_zero Go.wp_at_succ

theorem grown_refl (w : World) (r : Option Nat) : w.grownBy w r := ⟨rfl, rfl, rfl, Nat.le_refl _, fun _ _ _ => rfl⟩
theorem grown_trans {w w1 w2 : World} {r : Option Nat} (h : w.grownBy w1 r) (k : w1.grownBy w2 r) : w.grownBy w2 r :=
  ⟨k.os.trans h.os, k.tape.trans h.tape, k.output.trans h.output, Nat.le_trans h.size k.size, fun i hi hr => (k.block i (Nat.lt_of_lt_of_le hi h.size) hr).trans (h.block i hi hr)⟩
end Go.Proofs.YtncmdeijimgchaaGreat

/-
  Rows of numbers: compared, marked and read back; and the answers that hold one.
-/
namespace Go.Proofs.YtncmdeijimgchaaGreat
open Go.RowKit
set_option linter.unusedSectionVars false
variable [DecidableEq Leg] [Inhabited Leg]
attribute [local go_sem ↓] Go.wp_at_zero Go.wp_at_succ

def intsC (ys : List Int) : List Value := ys.map (Value.int .i64)
theorem infoInt : (Tryz.prog.info? 2).map (fun i => (i.zero, i.size, i.bytes)) = some (some (.int .i64 0), 1, 8) := by kernel_rfl
def IntsV (w : World) (v : Value) (ys : List Int) : Prop :=
  ∃ a cap, v = .slice a ys.length cap ∧ ys.length ≤ cap ∧ cap ≤ maxLen ∧ ∀ i, i < ys.length → ∃ b o, a = some ⟨b, o, none⟩ ∧ w.cell? ⟨b, o + i, none⟩ = some (.int .i64 (ys.getD i 0))
theorem IntsV_below {w w' : World} {v : Value} {ys : List Int} (h : IntsV w v ys) (hb : Below w.heap.size w w') : IntsV w' v ys := by
  obtain ⟨a, cap, rfl, h1, h2, h3⟩ := h
  exact ⟨a, cap, rfl, h1, h2, fun i hi => by
    obtain ⟨b, o, ha, hc⟩ := h3 i hi
    exact ⟨b, o, ha, cell_keep hb hc⟩⟩
theorem IntsV_of_owns {w : World} {base e : Nat} {v : Value} {ys : List Int} (h : w.ownsRow base e 1 v ys.length (intsC ys)) : IntsV w v ys := by
  rcases h.2 with ⟨rfl, hn⟩ | ⟨g, cap, cur, rfl, hb, hg, hnc, hcm, hcs, htake⟩
  · exact ⟨none, 0, by rw [hn], by omega, by unfold maxLen; omega, fun i hi => by omega⟩
  · refine ⟨some ⟨g, 0, none⟩, cap, rfl, hnc, hcm, fun i hi => ⟨g, 0, rfl, ?_⟩⟩
    rw [Nat.zero_add]
    refine (h.cellAt i (by omega)).trans ?_
    simp [intsC, List.getD, hi]
theorem ints_eq_of {xs ys : List Int} (hl : ys.length = xs.length) (h : ∀ j, j < xs.length → xs.getD j 0 = ys.getD j 0) : xs = ys := by
  apply List.ext_getElem (by omega)
  intro i h1 h2
  have := h i h1
  simpa [List.getD, h1, h2] using this
set_option maxHeartbeats 1000000 in
theorem eqInt64S_any (x y : Value) (xs ys : List Int) (w : World) (hx : IntsV w x xs) (hy : IntsV w y ys) :
    Calls Tryz.prog 12 #[x, y] w fun e w' => e = .returned (.bool (decide (xs = ys))) ∧ Below w.heap.size w w' := by
  obtain ⟨ax, cx, rfl, hcx, hmx, hx⟩ := hx
  obtain ⟨ay, cy, rfl, hcy, hmy, hy⟩ := hy
  unfold maxLen at hmx hmy
  by_cases hl : ys.length = xs.length
  · rw [hl] at hcy hy ⊢
    have HL : Hid (ys.length = xs.length) := hl
    clear hl
    generalize hn : xs.length = n at *
    have HN : Hid (xs.length = n) := hn
    clear hn
    go_enter Tryz.func12, Tryz.ntmps12
    go_wp2
    go_loopw [5] (fun i w' => ∃ k : Nat, k ≤ n ∧ i = .int .i64 k ∧ (∀ j, j < k → xs.getD j 0 = ys.getD j 0) ∧ Below w.heap.size w w') (fun i _ => n - (intOf i).toNat)
    case atStart => exact ⟨0, Nat.zero_le _, rfl, fun j h => absurd h (Nat.not_lt_zero _), Below.refl _ _⟩
    case round =>
      obtain ⟨k, hk, rfl, hpre, hbl⟩ := hrel
      have HP : Hid (∀ j, j < k → xs.getD j 0 = ys.getD j 0) := hpre
      clear hpre
      by_cases hlt : k < n
      · obtain ⟨bx, ox, rfl, h1⟩ := hx k hlt
        obtain ⟨b2, oy, rfl, h2⟩ := hy k hlt
        obtain ⟨l1, hl1⟩ : ∃ l, l = xs.getD k 0 := ⟨_, rfl⟩
        obtain ⟨l2, hl2⟩ : ∃ l, l = ys.getD k 0 := ⟨_, rfl⟩
        rw [← hl1] at h1
        rw [← hl2] at h2
        have H1 : Hid (l1 = xs.getD k 0) := hl1
        have H2 : Hid (l2 = ys.getD k 0) := hl2
        clear hl1 hl2 hx hy
        go_wp2
        go_region_held3 (fun w' => Below w.heap.size w w' ∧ w'.cell? ⟨bx, ox + k, none⟩ = some (.int .i64 l1) ∧ w'.cell? ⟨b2, oy + k, none⟩ = some (.int .i64 l2)) ((refine keepC2 ?_ h1 h2; repeat (first | exact Below.refl _ _ | assumption | refine Below.drew ?_ | refine balloc ?_ _ | refine bstep ?_ (by assumption)))) (fail)
        rename_i hH
        have hB := hH.1
        clear hH
        go_wp2
        · rename_i hle
          go_ret
          refine ⟨?_, hB⟩
          have : ¬ xs = ys := fun h => by
            have : l1 = l2 := by rw [H1.out, H2.out, h]
            simp [this] at hle
          simp [this]
        · rename_i hle
          refine ⟨⟨k + 1, by omega, by go_num, fun j hj => ?_, hB⟩, by simp [intOf]; omega⟩
          by_cases hjk : j < k
          · exact HP.out j hjk
          · have : j = k := by omega
            subst this
            rw [← H1.out, ← H2.out]
            simpa using hle
      · go_wp2
        go_ret
        have : k = n := by omega
        subst this
        refine ⟨?_, hbl⟩
        have : xs = ys := ints_eq_of (by rw [HL.out, HN.out]) (by rw [HN.out]; exact HP.out)
        simp [this]
  · go_enter Tryz.func12, Tryz.ntmps12
    have hl' : ((xs.length : Int) == (ys.length : Int)) = false := by simp; omega
    go_wp2
    go_ret
    have : ¬ xs = ys := fun h => hl (by rw [h])
    exact ⟨by simp [this], Below.refl _ _⟩
def marksI (k : Int) (n : Nat) : List Int := (List.range n).map (fun i : Nat => k + (i : Int))
theorem length_marksI (k : Int) (n : Nat) : (marksI k n).length = n := by simp [marksI]
theorem getD_marksI (k : Int) (n i : Nat) (h : i < n) : (marksI k n).getD i 0 = k + i := by simp [marksI, List.getD, h]
def uptoI (k : Nat) (cs : List Value) (ys : List Int) : Prop := ∀ j, j < k → cs[j]? = (intsC ys)[j]?
theorem uptoI_full {n : Nat} {cs : List Value} {ys : List Int} (h : uptoI n cs ys) (hl : cs.length = n * 1) (hn : ys.length = n) : cs = intsC ys := by
  apply List.ext_getElem?
  intro j
  by_cases hj : j < n
  · exact h j hj
  · rw [List.getElem?_eq_none (by omega), List.getElem?_eq_none (by simp [intsC]; omega)]
theorem uptoI_set {k : Nat} {cs : List Value} {ys : List Int} {l : Int} (h : uptoI k cs ys) (hk : k < ys.length) (hl : cs.length = ys.length * 1) (he : l = ys.getD k 0) : uptoI (k + 1) (cs.set k (.int .i64 l)) ys := by
  intro j hj
  rw [List.getElem?_set]
  by_cases e : k = j
  · subst e
    rw [if_pos rfl, if_pos (by omega)]
    simp [intsC, he, List.getD, hk]
  · rw [if_neg e]
    exact h j (by omega)
set_option maxHeartbeats 1000000 in
theorem markInt64S_any (v : Value) (n : Nat) (cs : List Value) (base e : Nat) (k : Int) (w : World) (ho : w.ownsRow base e 1 v n cs) (hn : n ≤ 1048576) (hk0 : 0 ≤ k) (hk1 : k ≤ 1073741824) :
    Calls Tryz.prog 14 #[v, .int .i64 k] w fun r w' => r = .returned (.int .i64 (k + n)) ∧ w'.ownsRow base e 1 v n (intsC (marksI k n)) ∧ w.grownBy w' v.ownBlock := by
  rcases ho.2 with ⟨rfl, rfl⟩ | ⟨g, cap, cur, rfl, hb, hg, hnc, hcm, _, _⟩
  · go_enter Tryz.func14, Tryz.ntmps14
    go_wp2
    go_loopw [1, 5] (fun q i w' => q = .int .i64 k ∧ i = .int .i64 0 ∧ w' = w) (fun _ _ _ => 0)
    case atStart => exact ⟨rfl, rfl, rfl⟩
    case round =>
      obtain ⟨rfl, rfl, rfl⟩ := hrel
      go_wp2
      go_ret
      exact ⟨by simp, World.ownsRow_nil _ _ _ _, grown_refl _ _⟩
  · unfold maxLen at hcm
    go_enter Tryz.func14, Tryz.ntmps14
    go_wp2
    go_loopw [1, 5] (fun q i w' => ∃ (j : Nat) (cs' : List Value), j ≤ n ∧ i = .int .i64 j ∧ q = .int .i64 (k + j) ∧ w'.ownsRow base e 1 (.slice (some ⟨g, 0, none⟩) n cap) n cs' ∧ uptoI j cs' (marksI k n) ∧ w.grownBy w' (some g)) (fun _ i _ => n - (intOf i).toNat)
    case atStart => exact ⟨0, cs, Nat.zero_le _, rfl, by simp, ho, fun j h => by omega, grown_refl _ _⟩
    case round =>
      obtain ⟨j, cs', hj, rfl, rfl, ho1, hup, hgr⟩ := hrel
      have HU : Hid (uptoI j cs' (marksI k n)) := hup
      clear hup ho hg
      by_cases hlt : j < n
      · obtain ⟨u0, g0⟩ := owns_some ho1 j (by omega)
        have hf := fun j => ho1.frozenAt j
        go_wp2
        have s0 := ho1.stored j (.int .i64 (k + j))
        refine ⟨⟨j + 1, _, by omega, by go_num, ?_, s0.1, uptoI_set HU.out (by rw [length_marksI]; exact hlt) (by rw [length_marksI]; exact ho1.1) (getD_marksI k n j hlt).symm, grown_trans hgr s0.2⟩, by simp [intOf]; omega⟩
        congr 1
        omega
      · go_wp2
        go_ret
        have hjn : j = n := by omega
        subst hjn
        have e' := uptoI_full HU.out ho1.1 (length_marksI k j)
        rw [e'] at ho1
        exact ⟨rfl, ho1, hgr⟩
set_option maxHeartbeats 1000000 in
theorem toInt64S_any (x : Value) (xs : List Int) (w : World) (hx : IntsV w x xs) (hn : xs.length ≤ 1048576) :
    Calls Tryz.prog 8 #[x] w fun e w' => ∃ v, e = .returned v ∧ w'.ownsRow w.heap.size 2 1 v xs.length (intsC xs) ∧ Below w.heap.size w w' := by
  obtain ⟨ax, cx, rfl, hcx, hmx, hx⟩ := hx
  unfold maxLen at hmx
  obtain ⟨i0, hi, hz0, hz1, hz2⟩ := info_parts infoInt
  obtain ⟨w1, hmk, hown, hgr⟩ := run_make_full (P := Tryz.prog) w w.heap.size 23 2 i0 _ 1 Tryz.underlying23 hi hz0 hz1 .i64 .i64 xs.length (by rw [hz2]; omega) (by unfold maxLen; omega) (Nat.le_refl _)
  have hbl0 : Below w.heap.size w w1 := (Below.refl _ _).grown hgr (Nat.le_refl _) (fun k h => by cases h)
  generalize hn' : xs.length = n at *
  have HN : Hid (xs.length = n) := hn'
  clear hn'
  go_enter Tryz.func8, Tryz.ntmps8
  go_wp2
  go_loopw [4] (fun i w' => ∃ (k : Nat) (cs : List Value), k ≤ n ∧ i = .int .i64 k ∧ w'.ownsRow w.heap.size 2 1 (.slice (some ⟨w.heap.size, 0, none⟩) n n) n cs ∧ Hid (∀ j, j < k → cs[j]? = (intsC xs)[j]?) ∧ Below w.heap.size w w') (fun i _ => n - (intOf i).toNat)
  case atStart => exact ⟨0, _, Nat.zero_le _, rfl, hown, fun j h => by omega, hbl0⟩
  case round =>
    obtain ⟨k, cs, hk, rfl, ho, HU, hbl⟩ := hrel
    clear hown hmk hgr hbl0
    by_cases hlt : k < n
    · obtain ⟨bx, ox, rfl, h1⟩ := hx k hlt
      obtain ⟨l, hl⟩ : ∃ l, l = xs.getD k 0 := ⟨_, rfl⟩
      rw [← hl] at h1
      have H1 : Hid (l = xs.getD k 0) := hl
      clear hl hx
      have a0 := cell_keep hbl h1
      obtain ⟨u0, g0⟩ := owns_some ho k (by omega)
      have hf := fun j => ho.frozenAt j
      go_wp2
      have s0 := ho.stored k (.int .i64 l)
      refine ⟨⟨k + 1, _, by omega, by go_num, s0.1, fun j hj => ?_, hbl.setCell (Nat.le_refl _) _⟩, by simp [intOf]; omega⟩
      rw [List.getElem?_set]
      split
      · rename_i e
        subst e
        have hl1 := ho.1
        have hl2 := HN.out
        rw [if_pos (by omega), H1.out]
        simp [intsC, List.getD, show k < xs.length by omega]
      · exact HU.out j (by omega)
    · go_wp2
      go_ret
      have hkn : k = n := by omega
      subst hkn
      have e : cs = intsC xs := List.ext_getElem? (fun j => by
        by_cases hj : j < k
        · exact HU.out j hj
        · have h1 := ho.1
          have h2 := HN.out
          rw [List.getElem?_eq_none (by omega), List.getElem?_eq_none (by simp [intsC]; omega)])
      subst e
      exact ⟨_, rfl, ho, hbl⟩
end Go.Proofs.YtncmdeijimgchaaGreat

